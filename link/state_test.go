package link_test

import (
	"fmt"
	"testing"

	"armarium/api"
)

// other is a book that is not of the order of deeds.
func other() api.State {
	return api.State{
		Seq:   90,
		L:     []api.Entry{{Key: "a", Vs: []api.Version{{Ver: 3, Body: "one"}, {Ver: 7, Gone: true}}}, {Key: "b/c", Vs: []api.Version{{Ver: 80, Body: "two"}}}},
		Memos: []api.Memo{{Req: req(1, 9), Res: api.Result{Ver: 80}}, {Req: req(4, 3), Res: api.Result{Err: api.ErrMatch}}},
		Lows:  [5]int64{req(1, 8), 0, 0, req(4, 2), 0},
	}
}

func state(from, to int, s api.State, l ...api.Deed) api.Word {
	return api.Word{Kind: api.WState, From: from, To: to, Epoch: epoch, Seq: s.Seq + int64(len(l)), State: s, Deeds: l}
}

func full(from int) api.Word { return api.Word{Kind: api.WFull, From: from, Epoch: epoch} }

// The new one learns all, whatever it knew: once.
func TestState(t *testing.T) {
	for _, knew := range [][2]int{{0, 0}, {4, 9}, {0, 60}, {95, 3}} {
		for _, s := range []api.State{{}, {Seq: 5}, other()} {
			for _, n := range []int{0, 1, 7, 60} {
				r := placed(made(t, 5, knew[0], knew[1]), 5, 3, 1, 5)
				want := r.known()
				want.Book, want.Pend, want.Seq, want.Learnt = s, nil, s.Seq, epoch
				want, _ = want.add(deeds(0, n)...).commit(n)
				what := fmt.Sprintf("knew %v, a book of %d, %d deeds", knew, s.Seq, n)
				w := state(1, 5, s, deeds(0, n)...)
				says(t, what, r.Step(w, until), full(5), ack(5, 1, s.Seq+int64(n)))
				knows(t, what, r, want)
				has(t, what, r)
				if !r.Active(until) || !r.Ready("", until) {
					t.Errorf("P13.1: %s: not Active", what)
				}
				nothing(t, what+", once more", r, w, until)
				nothing(t, what+", another one", r, state(1, 5, api.State{Seq: 999}), until)
				// A fall just behind: it has learnt, and commits what waits, as the tail.
				f := r.fall(t, 0)
				if f.Shelf().Learnt() != epoch || f.Shelf().Seq() != want.Seq {
					t.Errorf("P13.1: %s: behind a fall %v", what, f.known())
				}
				for _, x := range f.lease(of(epoch, 5, 3, 1, 5), until, 0) {
					if x.Kind != api.WDone || x.From != 5 || x.Epoch != epoch {
						t.Errorf("P13.1: %s: behind a fall %s", what, short([]api.Word{x}))
					}
				}
				if f.Done(); !f.Active(until) {
					t.Errorf("P13.1: %s: behind a fall not Active", what)
				}
				knows(t, what+", behind a fall", f, want)
				nothing(t, what+", behind a fall", f, w, until)
			}
		}
	}
}

// A fall just ahead of it: it has to learn still.
func TestFallAheadOfTheState(t *testing.T) {
	r := placed(made(t, 5, 4, 3), 5, 3, 1, 5)
	w := state(1, 5, other(), nth(1))
	f := r.fall(t, 0)
	nothing(t, "no lease yet", f, w, 0)
	f.lease(of(epoch, 5, 3, 1, 5), 9, 0)
	if f.Active(0) {
		t.Error("P13.1: it has not learnt")
	}
	says(t, "behind a fall", f.Step(w, 9), full(5), ack(5, 1, 91))
}

// Of what is in the word the book and the deeds count.
func TestStateByItsPartsAlone(t *testing.T) {
	for _, seq := range []int64{0, 1, 90, 91, 92, top} {
		r := placed(made(t, 5, 4, 3), 5, 3, 1, 5)
		w := state(1, 5, other(), deeds(0, 2)...)
		w.Seq, w.Req, w.Until, w.Res, w.Roster = seq, req(5, 1), 3, api.Result{Err: 5, Ver: 7}, of(8, 0, 1, 2)
		says(t, fmt.Sprint("a WState with the Seq ", seq), r.Step(w, 1), full(5), ack(5, 1, 92))
	}
}

// The deeds are done, but it tells nobody what came of them.
func TestStateTellsNoResult(t *testing.T) {
	l, _ := waiting()
	r := placed(made(t, 3, 0, 0), 3, 5, 3)
	want := r.known()
	want.Learnt = epoch
	want, _ = want.add(l...).commit(len(l))
	says(t, "a WState", r.Step(state(5, 3, api.State{}, l...), 1), full(3), ack(3, 5, int64(len(l))))
	knows(t, "a WState", r, want)
	has(t, "a WState", r)
}

// What may not be learnt: more than 2^40 deeds.
func TestStateThatMayNotBeLearnt(t *testing.T) {
	for n := range 5 {
		for seq := top - 3; seq <= top; seq++ {
			r := placed(made(t, 5, 4, 3), 5, 3, 1, 5)
			w := state(1, 5, api.State{Seq: seq}, deeds(0, n)...)
			w.Seq = min(w.Seq, top)
			if seq+int64(n) > top {
				nothing(t, "more than 2^40 deeds", r, w, 1)
				continue
			}
			says(t, "2^40 deeds", r.Step(w, 1), full(5), ack(5, 1, seq+int64(n)))
		}
	}
	r := placed(made(t, 5, 4, 3), 5, 3, 1, 5)
	for _, s := range []api.State{{Seq: -1}, {Seq: top + 1}, {L: other().L}, {Seq: 90, Memos: []api.Memo{{Req: 5}}}, {Seq: 90, Lows: [5]int64{5}}} {
		nothing(t, "a book that may not be", r, api.Word{Kind: api.WState, From: 1, To: 5, Epoch: epoch, State: s}, 1)
	}
	nothing(t, "61 deeds", r, state(1, 5, other(), deeds(0, 61)...), 1)
	nothing(t, "a deed that may not be", r, state(1, 5, other(), api.Deed{}), 1)
}

func TestStateElsewhere(t *testing.T) {
	w := state(0, 0, other(), deeds(0, 3)...)
	for _, p := range places(t) {
		r := p.make(4, 9)
		for from := range 6 {
			w.From, w.To = from, r.id
			if from == r.id || p.what == "the new one" && from == 1 {
				continue
			}
			nothing(t, fmt.Sprint(p.what, ": a WState from ", from), r, w, 1)
			x := w
			x.Epoch = r.Roster().Epoch
			nothing(t, fmt.Sprint(p.what, ": a WState from ", from), r, x, 1)
		}
	}
	r := placed(made(t, 5, 4, 9), 5, 3, 1, 5)
	w.From, w.To = 1, 5
	for _, now := range []int64{until + 1, until + 2, top, 1<<63 - 1} {
		nothing(t, "behind its lease", r, w, now)
	}
	for _, e := range []int64{0, 1, epoch - 1, epoch + 1, top} {
		x := w
		x.Epoch = e
		nothing(t, "of another epoch", r, x, 1)
	}
	says(t, "at its lease's end", r.Step(w, until), full(5), ack(5, 1, 93))
	nothing(t, "the shelf is down", down(t, placed(made(t, 5, 4, 9), 5, 3, 1, 5)), w, 1)
}

// What it has learnt in one epoch it has to learn anew in another one, in which it is new, too.
func TestLearnsInEachEpoch(t *testing.T) {
	r := placed(made(t, 5, 0, 0), 5, 3, 1, 5)
	r.Step(state(1, 5, other()), 1)
	r.lease(of(epoch+2, 5, 3, 5), 40, 30)
	if r.Active(30) {
		t.Error("P13.1: Active, and it has not learnt in this epoch")
	}
	w := state(3, 5, api.State{Seq: 95}, nth(1))
	w.Epoch = epoch + 2
	says(t, "another epoch", r.Step(w, 40), api.Word{Kind: api.WFull, From: 5, Epoch: epoch + 2}, api.Word{Kind: api.WAck, From: 5, To: 3, Epoch: epoch + 2, Seq: 96})
	if !r.Active(40) || r.Shelf().Learnt() != epoch+2 || r.Shelf().Book().Seq != 96 {
		t.Errorf("P13.1: another epoch: %v", r.known())
	}
	// And one that is no longer new need not.
	r.lease(of(epoch+4, 0, 3, 5), 60, 50)
	if !r.Active(60) {
		t.Error("P13.1: it is no longer new")
	}
}
