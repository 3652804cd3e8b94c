package link_test

import (
	"fmt"
	"slices"
	"testing"

	"armarium/api"
)

// deedful is a word that does something, where it comes at a time at which all that is asked of it holds.
type deedful struct {
	what   string
	make   func() replica
	w      api.Word
	active bool // it is asked whether it is Active
	lease  bool // it is asked whether the lease holds
	epoch  bool // the word's Epoch is asked
	from   []int
}

// deedfuls are words of each kind that does something, at each place where it does.
func deedfuls(t testing.TB) []deedful {
	all := places(t)
	at := func(what string, done, waits int) func() replica {
		k := slices.IndexFunc(all, func(p place) bool { return p.what == what })
		return func() replica { return all[k].make(done, waits) }
	}
	d := others(1)[0]
	free := []int{0, 1, 2, 3, 4, 5}
	return []deedful{
		{"a WWrite at the head", at("the head", 4, 9), write(4, 3, d), true, true, true, free},
		{"a WWrite alone", at("alone", 4, 9), write(4, 2, d), true, true, true, free},
		{"a WWrite that is told", at("alone", 4, 9), write(4, 2, nth(3)), true, true, true, free},
		{"a WWrite ahead of a new one", at("far ahead of the new one", 4, 9), write(4, 3, d), true, true, true, free},
		{"a WPass in the middle", at("the middle", 4, 9), pass(3, 1, 13, d), true, true, true, []int{3}},
		{"a WPass that is ahead", at("the middle", 4, 9), pass(3, 1, 14, d), true, true, true, []int{3}},
		{"a WPass that is behind", at("the middle", 4, 9), pass(3, 1, 3), true, true, true, []int{3}},
		{"a WPass at the tail", at("the tail", 4, 0), pass(1, 4, 4, d), true, true, true, []int{1}},
		{"a WPass of none at the tail", at("the tail", 4, 0), pass(1, 4, 4), true, true, true, []int{1}},
		{"a WPass that is ahead at the tail", at("the tail", 4, 0), pass(1, 4, 5), true, true, true, []int{1}},
		{"a WPass at the one that has learnt", at("the new one that has learnt", 4, 0), pass(1, 5, 4, d), true, true, true, []int{1}},
		{"a WNeed at the head", at("the head", 4, 9), need(1, 3, 4, 0), true, true, true, []int{1}},
		{"a WNeed in the middle", at("the middle", 4, 9), need(4, 1, 12, 0), true, true, true, []int{4}},
		{"a WNeed of all", at("ahead of the new one", 4, 9), need(5, 1, 0, 1), true, true, true, []int{5}},
		{"a WAck at the head", at("the head", 4, 9), ack(1, 3, 5), true, true, true, []int{1}},
		{"a WAck in the middle", at("the middle", 4, 9), ack(4, 1, 99), true, true, true, []int{4}},
		{"a WAsk at the tail", at("the tail", 4, 0), ask(3, 4, 5), true, true, true, []int{1, 3}},
		{"a WAsk at the one that has learnt", at("the new one that has learnt", 4, 0), ask(3, 5, 5), true, true, true, []int{1, 3}},
		{"a WState", at("the new one", 4, 9), state(1, 5, other(), d), false, true, true, []int{1}},
		{"a WTold", at("the head", 4, 9), told(4, 3, 5, 5), false, false, true, []int{4}},
		{"a WTold of its own", at("the middle", 4, 9), told(4, 1, req(1, 5), 0), false, false, true, []int{4}},
		{"a WDone", at("the middle", 4, 9), api.Word{Kind: api.WDone, From: 3, To: 1, Epoch: epoch, Req: req(1, 5)}, false, false, false, free},
		{"a WLease", at("the middle", 4, 9), api.Word{Kind: api.WLease, To: 1, Roster: of(epoch, 0, 1, 2), Until: 30}, false, false, false, []int{0}},
		{"a WLease of another epoch", at("of no roster", 4, 9), api.Word{Kind: api.WLease, To: 2, Roster: of(epoch, 0, 2), Until: 30}, false, false, false, []int{0}},
	}
}

// does asks that w does something.
func does(t *testing.T, what string, r replica, w api.Word, now int64) {
	t.Helper()
	was := r.known().String()
	if got := r.Step(w, now); len(got) == 0 && len(r.Done()) == 0 && r.known().String() == was {
		t.Errorf("P13.1: %s does nothing: %s", what, short([]api.Word{w}))
	}
}

// Each condition fails for itself: then nothing comes of the word.
func TestConditions(t *testing.T) {
	for _, x := range deedfuls(t) {
		does(t, x.what, x.make(), x.w, until)
		turned := func(why string, set func(w *api.Word)) {
			w := clone(x.w)
			set(&w)
			nothing(t, x.what+", "+why, x.make(), w, until)
		}
		for n := -1; n <= 6; n++ {
			if n != x.w.To {
				turned(fmt.Sprint("to ", n), func(w *api.Word) { w.To = n })
			}
			if n == x.w.From || n == x.w.To {
				continue
			}
			if n >= 0 && n <= 5 && slices.Contains(x.from, n) {
				w := clone(x.w)
				w.From = n
				does(t, fmt.Sprint(x.what, ", from ", n), x.make(), w, until)
			} else {
				turned(fmt.Sprint("from ", n), func(w *api.Word) { w.From = n })
			}
		}
		turned("from itself", func(w *api.Word) { w.From = w.To })
		mayNots(turned)
		for _, e := range []int64{0, 1, epoch - 1, epoch + 1, 1000, top} {
			w := clone(x.w)
			w.Epoch = e
			if x.epoch {
				nothing(t, fmt.Sprint(x.what, ", of the epoch ", e), x.make(), w, until)
			} else {
				does(t, fmt.Sprint(x.what, ", of the epoch ", e), x.make(), w, until)
			}
		}
		places := []struct {
			why   string
			make  func() replica
			now   int64
			fails bool
		}{
			{"at the beginning", x.make, 0, false}, {"behind the lease", x.make, until + 1, x.lease}, {"far behind the lease", x.make, top, x.lease},
			{"the shelf of another epoch", func() replica { r := x.make(); r.Shelf().Enter(epoch + 1); return r }, until, x.active},
			{"the shelf is down", func() replica { return down(t, x.make()) }, until, x.active || x.w.Kind == api.WState},
			{"behind a fall", func() replica { return x.make().fall(t, 0) }, until, x.epoch},
		}
		for _, y := range places {
			// A lease is of an epoch that is asked of the shelf, and what it is to a shelf that is down nobody says.
			if x.w.Kind == api.WLease || x.w.Kind == api.WState && y.why == "the shelf of another epoch" {
				continue
			}
			if y.fails {
				nothing(t, x.what+", "+y.why, y.make(), x.w, y.now)
			} else if x.what != "a WTold" || y.why != "the shelf is down" {
				does(t, x.what+", "+y.why, y.make(), x.w, y.now)
			}
		}
	}
}

// mayNots turn a word into ones that may not be, each for one reason alone.
func mayNots(turned func(why string, set func(w *api.Word))) {
	turned("of the Kind 0", func(w *api.Word) { w.Kind = 0 })
	turned("of the Kind 12", func(w *api.Word) { w.Kind = 12 })
	turned("of a Kind above 2^32", func(w *api.Word) { w.Kind += 1 << 32 })
	turned("of a Kind below 0", func(w *api.Word) { w.Kind = -w.Kind })
	turned("with an Epoch below 0", func(w *api.Word) { w.Epoch = -1 })
	turned("with an Epoch above 2^40", func(w *api.Word) { w.Epoch = top + 1 })
	turned("with a Seq below 0", func(w *api.Word) { w.Seq = -1 })
	turned("with a Seq above 2^40", func(w *api.Word) { w.Seq = top + 1 })
	turned("with a Req below 0", func(w *api.Word) { w.Req = -1 })
	turned("with a Req above 2^40", func(w *api.Word) { w.Req = top + 1 })
	turned("with an Until below 0", func(w *api.Word) { w.Until = -1 })
	turned("with an Until above 2^40", func(w *api.Word) { w.Until = top + 1 })
	turned("with an Err below 0", func(w *api.Word) { w.Res.Err = -1 })
	turned("with an Err of none", func(w *api.Word) { w.Res.Err = 14 })
	turned("with a Ver below 0", func(w *api.Word) { w.Res.Ver = -1 })
	turned("with a Ver above 2^40", func(w *api.Word) { w.Res.Ver = top + 1 })
	turned("with a Roster of no epoch", func(w *api.Word) { w.Roster = of(0, 0, 1, 2, 3, 4, 5) })
	turned("with a Roster that has one twice", func(w *api.Word) { w.Roster = of(epoch, 0, 1, 2, 1) })
	turned("with a Roster whose New is the head", func(w *api.Word) { w.Roster = of(epoch, 1, 1, 2) })
	turned("with 61 Deeds", func(w *api.Word) { w.Deeds = others(61) })
	turned("with a Deed that may not be", func(w *api.Word) { w.Deeds = append(w.Deeds, api.Deed{}) })
	turned("with one Deed that may not be", func(w *api.Word) { w.Deeds = []api.Deed{put("No", "", req(1, 1))} })
	turned("with a State that may not be", func(w *api.Word) { w.State.Seq = -1 })
}

// A number one below and one above what is asked, of each kind that asks for one.
func TestNumbersBeside(t *testing.T) {
	for _, x := range deedfuls(t) {
		for _, d := range []int64{-1, 1} {
			w := clone(x.w)
			switch {
			case w.Kind == api.WTold && w.Req >= base, w.Kind == api.WDone:
				w.Req += d * base
				w.Seq = 0
				nothing(t, x.what+", of another one", x.make(), w, until)
				w.Req = base*int64(w.To) + (base-1)*(d+1)/2 - (d-1)/2
				does(t, x.what+", the first one and the last one of its own", x.make(), w, until)
				w.Req = base * (int64(w.To) + (d+1)/2)
				nothing(t, x.what+", of nobody", x.make(), w, until)
			case w.Kind == api.WNeed && w.Req == 0:
				w.Seq = map[int64]int64{-1: 3, 1: 13}[d]
				nothing(t, x.what+", beside what waits", x.make(), w, until)
			case w.Kind == api.WNeed:
				w.Req += d
				nothing(t, x.what+", not of all", x.make(), w, until)
			case w.Kind == api.WAck, w.Kind == api.WTold:
				w.Seq = 4 + (d-1)/2
				nothing(t, x.what+", of no more", x.make(), w, until)
			}
		}
	}
}
