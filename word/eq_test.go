package word_test

import (
	"testing"

	"armarium/api"
	"armarium/word"
)

// equal asks what Eq tells of two words, either way round.
func equal(t *testing.T, what string, a, b api.Word, want bool) {
	t.Helper()
	if word.Eq(a, b) != want || word.Eq(b, a) != want {
		t.Errorf("P11.1: Eq, %s: not %t: %s, %s", what, want, short(a), short(b))
	}
}

func TestEqOfTheSame(t *testing.T) {
	equal(t, "the zero word", api.Word{}, api.Word{}, true)
	for _, w := range append(told(), some(), greatest(), bare(-3, 99, 99)) {
		equal(t, "itself", w, w, true)
		equal(t, "a copy", w, clone(w), true)
		equal(t, "the zero word", w, api.Word{}, false)
	}
	for _, x := range turns() {
		equal(t, x.what, x.word(), clone(x.word()), true)
	}
}

// Words that differ in one part alone, whether they may be or not.
func TestEqOfUnlikeParts(t *testing.T) {
	for _, x := range turns() {
		equal(t, x.what, x.word(), some(), false)
	}
	for k, move := range movers() {
		w := move(some(), api.Word{})
		if k == 0 && w.Kind != 0 {
			t.Fatal("Kind stays")
		}
		equal(t, "a part that is zero", w, some(), false)
		equal(t, "nothing but a part", move(api.Word{}, some()), api.Word{}, false)
		equal(t, "the part again", move(w, some()), some(), true)
	}
}

// Any two of many words.
func TestEqOfAnyTwo(t *testing.T) {
	l := []api.Word{{}, some()}
	l = append(l, told()...)
	for _, x := range turns() {
		if w := x.word(); len(w.Deeds) <= 60 && len(w.State.L) <= 40 && len(w.State.Memos) <= 100 && len(w.Roster.L) <= 6 {
			l = append(l, w)
		}
	}
	for k, a := range l {
		for n, b := range l {
			if word.Eq(a, b) != (k == n) {
				t.Errorf("P11.1: Eq: %t: %s, %s", k != n, short(a), short(b))
			}
		}
	}
}

// What is in one list is not in another one, nor in another order.
func TestEqOfNeighbours(t *testing.T) {
	for _, x := range neighbours() {
		equal(t, "neighbours", x[0], x[1], false)
	}
}

func TestEqOfEmptyLists(t *testing.T) {
	for k, x := range empties() {
		if !word.Eq(x[0], x[1]) || !word.Eq(x[1], x[0]) || !word.Eq(x[1], x[1]) {
			t.Errorf("P0.4: Eq of nil and of empty lists, %d: false", k)
		}
	}
}

// A list that is the beginning of another one.
func TestEqOfBeginnings(t *testing.T) {
	w := greatest()
	x := clone(w)
	x.Deeds = x.Deeds[:59]
	equal(t, "a deed less", w, x, false)
	x = clone(w)
	x.Roster.L = x.Roster.L[:4]
	equal(t, "a node less", w, x, false)
	x = clone(w)
	x.State.L = x.State.L[:39]
	equal(t, "an entry less", w, x, false)
	x = clone(w)
	x.State.L[39].Vs = x.State.L[39].Vs[:11]
	equal(t, "a version less", w, x, false)
	x = clone(w)
	x.State.Memos = x.State.Memos[:99]
	equal(t, "a memo less", w, x, false)
	x = clone(w)
	x.State.Lows[4]--
	equal(t, "another Low", w, x, false)
}
