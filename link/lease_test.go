package link_test

import (
	"fmt"
	"testing"

	"armarium/api"
)

func TestFirstLease(t *testing.T) {
	for _, x := range []api.Roster{of(1, 0, 2), of(5, 0, 2, 3), of(5, 0, 3, 2), of(top, 0, 5, 4, 2, 1, 3), of(6, 4, 2, 4), of(6, 2, 4, 2), of(6, 3, 1, 2, 3)} {
		for _, end := range []int64{0, 1, 9, top} {
			r := made(t, 2, 3, 0)
			want := r.known()
			want.Roster, want.Until, want.Epoch = x, end, x.Epoch
			says(t, "the first lease", r.lease(x, end, 0))
			knows(t, "the first lease", r, want)
			has(t, "the first lease", r)
			f := r.fall(t, 0)
			if f.Shelf().Epoch() != x.Epoch || f.Roster().Epoch != 0 || f.Until() != 0 || f.Active(0) {
				t.Errorf("P13.1: behind a fall: %v", f.known())
			}
		}
	}
}

// The chief's leases have no Epoch of their own; whatever else is in the word does not count.
func TestLeaseByItsRosterAlone(t *testing.T) {
	for _, e := range []int64{0, 6, 7, 8, top} {
		r := placed(made(t, 1, 3, 4), 0, 3, 1, 4)
		want := r.known()
		want.Until = 30
		w := api.Word{Kind: api.WLease, To: 1, Epoch: e, Seq: 5, Req: req(1, 7), Until: 30, Res: api.Result{Err: 3, Ver: 9}, Roster: of(7, 0, 3, 1, 4), Deeds: deeds(7, 2), State: r.Shelf().Book()}
		says(t, fmt.Sprint("a lease with the Epoch ", e), r.Step(w, 25))
		knows(t, fmt.Sprint("a lease with the Epoch ", e), r, want)
		has(t, "a lease", r)
	}
}

// Of each epoch around the shelf's and the Roster's, with each end around the one that is.
func TestEpochsOfLeases(t *testing.T) {
	for _, x := range []struct{ roster, shelf int64 }{{0, 0}, {0, 5}, {5, 5}, {5, 7}, {5, 6}} {
		for e := max(1, x.roster-2); e <= x.shelf+3; e++ {
			for _, end := range []int64{0, 9, 10, 11, 500} {
				what := fmt.Sprintf("Roster %d, shelf %d, a lease of %d until %d", x.roster, x.shelf, e, end)
				r := made(t, 2, 2, 0)
				if x.roster > 0 {
					r.lease(of(x.roster, 0, 1, 2), 10, 0)
				}
				if x.shelf > x.roster {
					r.Shelf().Enter(x.shelf)
				}
				want := r.known()
				if e >= x.shelf {
					want.Epoch, want.Roster = e, of(e, 0, 2, 3, 4)
					if e != x.roster || end > want.Until {
						want.Until = end
					}
				}
				says(t, what, r.lease(of(e, 0, 2, 3, 4), end, 3))
				knows(t, what, r, want)
				has(t, what, r)
				if r.Active(want.Until) != (want.Epoch == want.Roster.Epoch) || r.Active(want.Until+1) {
					t.Errorf("P13.1: %s: Active(%d) %v", what, want.Until, r.Active(want.Until))
				}
				if f := r.fall(t, 0); f.Shelf().Epoch() != want.Epoch {
					t.Errorf("P13.1: %s: the epoch %d lasts", what, f.Shelf().Epoch())
				}
			}
		}
	}
}

func TestLeasesThatAreNone(t *testing.T) {
	for _, p := range places(t) {
		r := p.make(4, 0)
		for _, e := range []int64{epoch, epoch + 1, epoch + 7} {
			other := r.id%5 + 1
			for from := 1; from <= 5; from++ {
				nothing(t, p.what+": from a node", r, api.Word{Kind: api.WLease, From: from, To: r.id, Epoch: epoch, Roster: of(e, 0, r.id), Until: 90}, 1)
			}
			for to := range 6 {
				if to != r.id {
					nothing(t, p.what+": to another one", r, api.Word{Kind: api.WLease, To: to, Roster: of(e, 0, r.id), Until: 90}, 1)
				}
			}
			for _, x := range []api.Roster{of(e, 0, other), of(e, 0, other, 6-r.id%6), {}} {
				if len(x.L) == 2 && (x.L[0] == x.L[1] || x.L[1] == r.id || x.L[1] > 5) {
					continue
				}
				nothing(t, p.what+": without it", r, api.Word{Kind: api.WLease, To: r.id, Epoch: epoch, Roster: x, Until: 90}, 1)
			}
			for _, w := range []api.Word{
				{Roster: of(e, r.id, r.id), Until: 90}, {Roster: of(e, 0, r.id, r.id), Until: 90}, {Roster: of(e, 0, r.id, 6), Until: 90}, {Roster: of(e, 0, r.id), Until: -1},
				{Roster: of(e, 0, r.id), Until: top + 1}, {Roster: of(-e, 0, r.id), Until: 90}, {Roster: of(top+1, 0, r.id), Until: 90}, {Roster: of(e, 0, r.id), Until: 90, Seq: -1},
				{Roster: of(e, 0, r.id), Until: 90, Deeds: []api.Deed{{}}}, {Roster: of(e, 0, r.id), Until: 90, State: api.State{Seq: -1}},
			} {
				w.Kind, w.To = api.WLease, r.id
				nothing(t, p.what+": a word that may not be", r, w, 1)
			}
		}
	}
}

// waiting are deeds of several nodes of which all sorts of things come, and what that is, where they are done to no book.
func waiting() ([]api.Deed, []api.Result) {
	l := []api.Deed{
		put("a", "one", req(3, 1)), put("a", "two", req(4, 1)), {Kind: api.DDelete, Key: "none", Req: req(1, 1)}, put("b", "", req(3, 2)),
		{Kind: api.DPut, Key: "a", Cond: api.CAbsent, Req: req(5, 9)}, {Kind: api.DPurge, Key: "a", Ver: 1, Req: req(3, 3), Low: req(3, 3)}, put("c", "", req(3, 2)), put("a", "one", req(4, 1)),
	}
	return l, []api.Result{{Ver: 1}, {Ver: 2}, {Err: api.ErrNone}, {Ver: 4}, {Err: api.ErrMatch}, {Ver: 1}, {Err: api.ErrOld}, {Ver: 2}}
}

// A lease by which it becomes the tail while deeds wait: all are committed, and who wrote them is told, itself by Done.
func TestLeaseOfTheTail(t *testing.T) {
	l, results := waiting()
	for _, x := range []struct {
		what string
		r    api.Roster
		now  int64
		done bool
	}{
		{"the tail", of(9, 0, 1, 2, 3), 10, true}, {"the tail at its end", of(9, 0, 5, 3), 30, true}, {"alone", of(9, 0, 3), 0, true}, {"of the epoch that is", of(7, 0, 1, 3), 30, true},
		{"behind its end", of(9, 0, 1, 2, 3), 31, false}, {"the head", of(9, 0, 3, 1), 10, false}, {"the middle", of(9, 0, 1, 3, 2), 10, false},
		{"ahead of the new one", of(9, 5, 3, 5), 10, false}, {"the new one", of(9, 3, 5, 3), 10, false}, {"the new one of the epoch that is", of(7, 3, 1, 3), 10, false},
	} {
		r := placed(made(t, 3, 0, 0), 0, 1, 3, 4)
		for _, d := range l {
			r.Shelf().Add(d)
		}
		want := r.known()
		want.Roster, want.Until, want.Epoch = x.r, 30, x.r.Epoch
		said, done := []api.Word{}, []api.Word{}
		if x.done {
			want, _ = want.commit(len(l))
			for k, d := range l {
				home := int(d.Req / base)
				w := api.Word{Kind: api.WDone, From: 3, To: home, Epoch: x.r.Epoch, Req: d.Req, Res: results[k]}
				if home == 3 {
					done = append(done, w)
				} else {
					said = append(said, w)
				}
			}
		}
		says(t, x.what, r.lease(x.r, 30, x.now), said...)
		knows(t, x.what, r, want)
		has(t, x.what, r, done...)
		says(t, x.what+", once more", r.lease(x.r, 30, x.now))
		knows(t, x.what+", once more", r, want)
		has(t, x.what+", once more", r)
	}
}

// One that came too late commits nothing, but the next one does.
func TestLeaseThatIsLate(t *testing.T) {
	r := made(t, 1, 2, 3)
	says(t, "a late lease", r.lease(of(3, 0, 2, 1), 10, 11))
	if r.Active(11) || r.Shelf().Book().Seq != 2 {
		t.Errorf("P13.1: a late lease: %v", r.known())
	}
	if got := r.lease(of(3, 0, 2, 1), 16, 12); len(got) != 2 || len(r.Done()) != 1 || r.Shelf().Book().Seq != 5 || !r.Active(16) {
		t.Errorf("P13.1: the next lease: %s, %v", short(got), r.known())
	}
}

// The new one: it has to learn, until it has, or until it is no longer new.
func TestLeaseOfTheNewOne(t *testing.T) {
	r := made(t, 5, 2, 3)
	says(t, "the new one", r.lease(of(4, 5, 1, 5), 20, 1))
	if r.Active(1) || r.Ready("none", 1) || r.Shelf().Book().Seq != 2 {
		t.Errorf("P13.1: the new one: %v", r.known())
	}
	// That it has learnt in another epoch does not count.
	r.Shelf().Learn(r.Shelf().Book(), r.Shelf().Pend())
	if !r.Active(1) {
		t.Error("P13.1: it has learnt")
	}
	says(t, "the new one", r.lease(of(5, 5, 1, 5), 20, 1))
	if r.Active(1) || r.Shelf().Book().Seq != 2 || r.Shelf().Learnt() != 4 {
		t.Errorf("P13.1: it has learnt in another epoch: %v", r.known())
	}
	f := r.fall(t, 0)
	f.Shelf().Learn(f.Shelf().Book(), f.Shelf().Pend())
	if got := f.lease(of(5, 5, 1, 5), 20, 1); len(got) != 2 || len(f.Done()) != 1 || !f.Active(1) || f.Shelf().Book().Seq != 5 {
		t.Errorf("P13.1: it has learnt, and falls: %s, %v", short(got), f.known())
	}
	if got := r.lease(of(5, 0, 1, 5), 20, 1); len(got) != 2 || len(r.Done()) != 1 || !r.Active(1) || r.Shelf().Book().Seq != 5 {
		t.Errorf("P13.1: it is no longer new: %s, %v", short(got), r.known())
	}
	// Others than the new one need not learn.
	o := made(t, 1, 2, 3)
	o.lease(of(5, 5, 1, 5), 20, 1)
	if !o.Active(1) {
		t.Error("P13.1: another one than the new one")
	}
}

// Active in all that it asks, one after the other.
func TestActive(t *testing.T) {
	for _, p := range places(t) {
		r := p.make(3, 2)
		active := p.what != "of no roster" && p.what != "the new one"
		for _, now := range []int64{-1 << 63, -1, 0, 1, until - 1, until, until + 1, top, 1<<63 - 1} {
			if r.Active(now) != (active && now <= until) {
				t.Errorf("P13: %s: Active(%d) is %v", p.what, now, r.Active(now))
			}
		}
		r.Shelf().Enter(epoch + 1)
		if r.Active(1) {
			t.Errorf("P13: %s: Active, and the shelf is of another epoch", p.what)
		}
		if down(t, p.make(3, 2)).Active(1) {
			t.Errorf("P13: %s: Active, and the shelf is down", p.what)
		}
	}
}
