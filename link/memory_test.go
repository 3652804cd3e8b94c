package link_test

import (
	"reflect"
	"slices"
	"testing"

	"armarium/api"
)

// spared is l with room behind it, in which there are other things.
func spared[T any](l []T, others ...T) []T {
	all := slices.Concat(l, others, others)
	return all[:len(l)]
}

// roomy is w with room behind each list, at each depth.
func roomy(w api.Word) api.Word {
	w.Roster.L = spared(w.Roster.L, 91, 92)
	w.Deeds = spared(w.Deeds, put("spare", "room", req(1, 99)))
	w.State.Memos = spared(w.State.Memos, api.Memo{Req: req(5, 99), Res: api.Result{Err: 3}})
	l := []api.Entry{}
	for _, e := range w.State.L {
		e.Vs = spared(e.Vs, api.Version{Ver: 99, Body: "spare"})
		l = append(l, e)
	}
	w.State.L = spared(l, api.Entry{Key: "spare", Vs: spared([]api.Version{{Ver: 5}}, api.Version{Ver: 6})})
	return w
}

// whole is all that stands in a list's memory.
func whole[T any](l []T) []T { return l[:cap(l)] }

// imageOf is a copy of what w has in all of its memory.
func imageOf(w api.Word) api.Word {
	w.Roster.L, w.Deeds, w.State.Memos, w.State.L = whole(w.Roster.L), whole(w.Deeds), whole(w.State.Memos), slices.Clone(whole(w.State.L))
	for k, e := range w.State.L {
		w.State.L[k].Vs = whole(e.Vs)
	}
	return clone(w)
}

// scribble writes into each of w's lists, at each depth, and into their spare room.
func scribble(w api.Word) {
	for k := range whole(w.Roster.L) {
		whole(w.Roster.L)[k] = 4 - k
	}
	for k := range whole(w.Deeds) {
		whole(w.Deeds)[k] = put("scribble", "", req(2, int64(k+1)))
	}
	for k := range whole(w.State.Memos) {
		whole(w.State.Memos)[k] = api.Memo{Req: -77, Res: api.Result{Ver: -7}}
	}
	for k := range whole(w.State.L) {
		e := whole(w.State.L)[k]
		for k := range whole(e.Vs) {
			whole(e.Vs)[k] = api.Version{Ver: -77, Body: "scribble", Gone: true}
		}
		whole(w.State.L)[k].Key = "scribble"
	}
}

// scribbles writes into all of an answer.
func scribbles(l []api.Word) {
	for k := range whole(l) {
		scribble(whole(l)[k])
		whole(l)[k] = api.Word{Kind: 99, To: -5, Deeds: []api.Deed{{}}}
	}
}

// goesOn is what a replica tells in a row of calls, each answer as it is told; and scribbles, where that is asked for.
func goesOn(r replica, scribbling bool) []api.Word {
	out := []api.Word{}
	tell := func(l []api.Word) {
		for _, w := range l {
			out = append(out, clone(w))
		}
		if scribbling {
			scribbles(l)
		}
	}
	next := r.next()
	for range 2 {
		tell(r.Tick(1))
		tell(r.Step(need(next, r.id, r.Shelf().Book().Seq, 0), 1))
		tell(r.Step(need(next, r.id, 0, 1), 1))
		tell(r.Write(nth(2), 1))
		tell(r.Ask(77, 1))
		tell(r.Write(put("goes", "on", req(3, 500)), 1))
		tell(r.Step(ack(next, r.id, r.Shelf().Book().Seq+1), 1))
		tell(r.Done())
		x := r.Roster()
		tell([]api.Word{{Roster: x}})
		k := r.known()
		tell([]api.Word{{State: k.Book, Deeds: k.Pend, Seq: k.Seq, Epoch: k.Epoch, Until: k.Until, Roster: k.Roster}})
	}
	return out
}

// What is handed in stays as it is, and may be turned afterwards.
func TestWordsThatAreTurned(t *testing.T) {
	for _, x := range deedfuls(t) {
		for _, laden := range []bool{false, true} {
			w := x.w
			// Also with lists that the word has no use for.
			if laden && w.Kind != api.WState {
				w.State = other()
			}
			if laden && len(w.Deeds) == 0 {
				w.Deeds = others(2)
			}
			if laden && len(w.Roster.L) == 0 {
				w.Roster = of(4, 2, 1, 2)
			}
			w = roomy(w)
			was := imageOf(w)
			a, b := x.make(), x.make()
			got, want := a.Step(w, until), b.Step(clone(w), until)
			if !reflect.DeepEqual(imageOf(w), was) {
				t.Errorf("P0.3: %s: Step turns what was handed in", x.what)
			}
			scribble(w)
			says(t, x.what+", turned", got, want...)
			knows(t, x.what+", turned", a, b.known())
			says(t, x.what+", turned: Done", a.Done(), b.Done()...)
			says(t, x.what+", turned, and on", goesOn(a, false), goesOn(b, false)...)
		}
	}
}

// What is told may be turned.
func TestAnswersThatAreTurned(t *testing.T) {
	for _, x := range deedfuls(t) {
		a, b := x.make(), x.make()
		got, want := a.Step(clone(x.w), until), b.Step(clone(x.w), until)
		scribbles(got)
		knows(t, x.what+", scribbled", a, b.known())
		got, want = a.Done(), b.Done()
		says(t, x.what+", scribbled: Done", got, want...)
		scribbles(got)
		knows(t, x.what+", scribbled", a, b.known())
		says(t, x.what+", scribbled, and on", goesOn(a, true), goesOn(b, false)...)
		knows(t, x.what+", scribbled", a, b.known())
	}
	for _, p := range places(t) {
		a, b := p.make(4, 9), p.make(4, 9)
		says(t, p.what+", scribbled", goesOn(a, true), goesOn(b, false)...)
		knows(t, p.what+", scribbled", a, b.known())
	}
}

// No two answers have memory in common.
func TestAnswersBesideEachOther(t *testing.T) {
	laden := api.Word{Kind: api.WDone, From: 4, To: 1, Epoch: epoch, Req: req(1, 5), Deeds: others(2), Roster: of(4, 2, 1, 2), State: other()}
	for _, p := range places(t) {
		r := p.make(4, 9)
		next := r.next()
		laden.To, laden.From, laden.Req = r.id, r.id%5+1, req(r.id, 5)
		for k, call := range []func() []api.Word{
			func() []api.Word { return r.Tick(1) },
			func() []api.Word { return r.Step(need(next, r.id, 4, 0), 1) },
			func() []api.Word { return r.Step(need(next, r.id, 0, 1), 1) },
			func() []api.Word { r.Step(laden, 1); r.Step(laden, 1); return r.Done() },
			func() []api.Word { return []api.Word{{Roster: r.Roster()}} },
			func() []api.Word { return r.Write(nth(1), until+1) },
			func() []api.Word { return r.Ask(7, until+1) },
		} {
			a, b := call(), call()
			want := []api.Word{}
			for _, w := range b {
				want = append(want, clone(w))
			}
			says(t, p.what, a, want...)
			was := r.known()
			scribbles(a)
			says(t, p.what+", beside it", b, want...)
			knows(t, p.what+", beside it", r, was)
			says(t, p.what+", behind it", call(), want...)
			if k == 3 {
				// Of one answer, too, no list is another one's.
				scribble(b[0])
				says(t, p.what+", of one answer", b[1:], want[1:]...)
			}
		}
	}
}

// What Done has told is not written over by what comes then.
func TestDoneIsNotWrittenOver(t *testing.T) {
	r := placed(made(t, 1, 4, 9), 0, 3, 1, 4)
	all, want := [][]api.Word{}, [][]api.Word{}
	for k := range 20 {
		part := []api.Word{}
		for n := range k % 5 {
			w := api.Word{Kind: api.WDone, From: 4, To: 1, Epoch: epoch, Req: req(1, int64(10*k+n+1)), Res: api.Result{Ver: int64(k)}}
			r.Step(w, 1)
			part = append(part, w)
		}
		all, want = append(all, r.Done()), append(want, part)
	}
	for k := range all {
		says(t, "Done", all[k], want[k]...)
	}
}

// The shelf's own answers and the Link's have no memory in common, either.
func TestShelfBesideAnswers(t *testing.T) {
	r := placed(made(t, 1, 4, 9), 5, 3, 1, 5)
	book, pend := r.Shelf().Book(), r.Shelf().Pend()
	want := r.known()
	l := r.Step(need(5, 1, 0, 1), 1)
	scribbles(l)
	if !reflect.DeepEqual(plainState(book), plainState(want.Book)) || !reflect.DeepEqual(pend, want.Pend) {
		t.Error("P0.3: a WState has the memory of another answer")
	}
	knows(t, "a WState, scribbled", r, want)
}
