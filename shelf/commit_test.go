package shelf_test

import (
	"fmt"
	"math"
	"slices"
	"testing"

	"armarium/api"
	"armarium/deed"
)

func TestCommitWrittenOut(t *testing.T) {
	x := roomy(t, "Commit, written out")
	for _, d := range []api.Deed{
		put(1, "a", "x"), matched(put(2, "a", "y"), api.CAbsent, ""), matched(put(3, "a", "z"), api.CMatch, deed.Tag("x")),
		del(1, "none"), del(2, "a"), matched(put(4, "a", "u"), api.CAbsent, ""), purge(1, "a", 3), purge(2, "a", 3), put(1, "a", "x"), lowered(put(5, "b", ""), req(1, 4)), put(3, "c", ""),
	} {
		x.fine(x.add(d))
	}
	l := append(x.commits(3), x.commits(11)...)
	want := []api.Result{{Ver: 1}, {Err: api.ErrMatch}, {Ver: 3}, {Err: api.ErrNone}, {Ver: 5}, {Ver: 6}, {Ver: 3}, {Err: api.ErrNone}, {Ver: 1}, {Ver: 10}, {Err: api.ErrOld}}
	if !slices.Equal(l, want) {
		t.Errorf("P8.1: Commit: %+v, not %+v", l, want)
	}
	if b := x.s.Book(); len(b.L) != 2 || !slices.Equal(b.L[0].Vs, []api.Version{there(1, "x"), gone(5), there(6, "u")}) || b.Lows[0] != req(1, 4) {
		t.Errorf("P8.1: Commit: the Book %+v", b)
	}
}

// starts are shelves with something to commit, by what they are.
func starts(t *testing.T) map[string]*both {
	l := map[string]*both{}
	for _, n := range []int{0, 1, 2, 7, 60} {
		for what, b := range books() {
			x := roomy(t, fmt.Sprintf("%s and %d", what, n))
			x.fine(x.learn(what, b, puts(n)))
			l[x.what] = x
		}
		x := roomy(t, fmt.Sprintf("the last numbers and %d", n))
		x.fine(x.learn("a great Seq", greatest(top-int64(n)), puts(n)))
		l[x.what] = x
	}
	x := roomy(t, "deeds of all kinds")
	for _, d := range mays() {
		x.fine(x.add(d))
	}
	l[x.what] = x
	return l
}

// Commit of what is not to be committed does nothing, and writes nothing.
func TestCommitOfNothing(t *testing.T) {
	t.Parallel()
	for what, x := range starts(t) {
		was := rolls(x.c)
		at, seq := x.s.Book().Seq, x.s.Seq()
		for _, n := range []int64{math.MinInt64, math.MinInt64 + 1, -top, -60, -1, 0, at / 2, at - 60, at - 1, at} {
			if l, err := x.s.Commit(n); err != api.OK || len(l) != 0 {
				t.Errorf("P8.1: %s: Commit of %d: %v, error %d", what, n, l, err)
			}
		}
		for _, n := range []int64{seq + 1, seq + 2, seq + 60, max(seq, top) + 1, math.MaxInt64 - 1, math.MaxInt64} {
			if l, err := x.s.Commit(n); err != api.ErrRange || len(l) != 0 {
				t.Errorf("P8.1: %s: Commit of %d: %v, error %d", what, n, l, err)
			}
		}
		if rolls(x.c) != was {
			t.Errorf("P8.1: %s: Commit of nothing writes", what)
		}
		x.holds("Commit of nothing")
	}
}

func TestCommitAtOnce(t *testing.T) {
	t.Parallel()
	for what, x := range starts(t) {
		at, seq := x.s.Book().Seq, x.s.Seq()
		if l := x.commits(seq); len(l) != int(seq-at) || len(x.s.Pend()) != 0 || x.s.Book().Seq != seq || x.s.Seq() != seq {
			t.Errorf("P8.1: %s: Commit of all: %v", what, l)
		}
		if l := x.commits(seq); len(l) != 0 {
			t.Errorf("P8.1: %s: Commit of all again: %v", what, l)
		}
		x.fine(x.pack())
		x.commits(seq)
	}
}

// Commits by parts come to what one comes to.
func TestCommitByParts(t *testing.T) {
	t.Parallel()
	for what, x := range starts(t) {
		at, seq := x.s.Book().Seq, x.s.Seq()
		for _, n := range []int64{at, at + 1, (at + seq) / 2, seq - 1, seq - 1, seq} {
			if n < at || n > seq {
				continue
			}
			was := max(x.s.Book().Seq, at)
			if l := x.commits(n); len(l) != int(max(n-was, 0)) || x.s.Book().Seq != max(n, was) || x.s.Seq() != seq {
				t.Errorf("P8.1: %s: Commit of %d: %v", what, n, l)
			}
		}
	}
}

// There is room again for as many as were done, and they go behind those that wait.
func TestRoomAgain(t *testing.T) {
	x := roomy(t, "room again")
	x.fine(x.learn("60", api.State{}, puts(60)))
	n := int64(100)
	for _, k := range []int64{1, 2, 30, 60} {
		x.commits(x.s.Book().Seq + k)
		for range k {
			n++
			x.fine(x.add(lowered(put(n, fmt.Sprint("n", n%7), fmt.Sprint(n)), req(1, n-90))))
		}
		if err := x.add(put(n+1, "no", "")); err != api.ErrFull {
			t.Errorf("P8.1: Add behind %d more: error %d", k, err)
		}
	}
	x.commits(x.s.Seq())
}
