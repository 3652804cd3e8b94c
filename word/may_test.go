package word_test

import (
	"fmt"
	"testing"

	"armarium/api"
	"armarium/word"
)

func mayBe(t *testing.T, what string, w api.Word, may bool) {
	t.Helper()
	for range 2 {
		if word.May(w) != may {
			t.Errorf("P11.1: May, %s: not %t: %s", what, may, short(w))
		}
	}
}

func TestMay(t *testing.T) {
	mayBe(t, "some", some(), true)
	mayBe(t, "the greatest", greatest(), true)
	mayBe(t, "the zero word", api.Word{}, false)
	for _, w := range told() {
		mayBe(t, "as it is said", w, true)
	}
}

func TestMayOfEachReason(t *testing.T) {
	count := map[bool]int{}
	for _, x := range turns() {
		mayBe(t, x.what, x.word(), x.may)
		count[x.may]++
	}
	if count[true] < 100 || count[false] < 100 {
		t.Errorf("so many may be, or not: %v", count)
	}
}

// What may be said hangs on each part alone: no part is asked of one kind of words only.
func TestMayOfEachKind(t *testing.T) {
	for kind := 1; kind <= 11; kind++ {
		for _, x := range turns()[len(kindTurns()):] {
			w := x.word()
			w.Kind = kind
			mayBe(t, fmt.Sprint("Kind ", kind, ", ", x.what), w, x.may)
		}
	}
}

// A word that has nothing but what is turned.
func TestMayOfOnePartAlone(t *testing.T) {
	for kind := 0; kind <= 12; kind++ {
		for from := -1; from <= 6; from++ {
			for to := -1; to <= 6; to++ {
				may := 1 <= kind && kind <= 11 && 0 <= from && from <= 5 && 0 <= to && to <= 5 && from != to
				mayBe(t, "a bare word", bare(kind, from, to), may)
			}
		}
	}
	for _, x := range turns()[len(kindTurns())+len(endTurns()):] {
		full, one, was := x.word(), bare(3, 0, 5), some()
		for _, move := range movers() {
			if !same(move(api.Word{}, full), move(api.Word{}, was)) {
				one = move(one, full)
			}
		}
		mayBe(t, "alone, "+x.what, one, x.may)
	}
}

// movers each give the first word a part of the second one.
func movers() []func(to, from api.Word) api.Word {
	return []func(to, from api.Word) api.Word{
		func(to, from api.Word) api.Word { to.Kind = from.Kind; return to },
		func(to, from api.Word) api.Word { to.From = from.From; return to },
		func(to, from api.Word) api.Word { to.To = from.To; return to },
		func(to, from api.Word) api.Word { to.Epoch = from.Epoch; return to },
		func(to, from api.Word) api.Word { to.Seq = from.Seq; return to },
		func(to, from api.Word) api.Word { to.Req = from.Req; return to },
		func(to, from api.Word) api.Word { to.Until = from.Until; return to },
		func(to, from api.Word) api.Word { to.Res.Err = from.Res.Err; return to },
		func(to, from api.Word) api.Word { to.Res.Ver = from.Res.Ver; return to },
		func(to, from api.Word) api.Word { to.Roster = from.Roster; return to },
		func(to, from api.Word) api.Word { to.Deeds = from.Deeds; return to },
		func(to, from api.Word) api.Word { to.State = from.State; return to },
	}
}

func TestMayOfEmptyLists(t *testing.T) {
	for k, x := range empties() {
		if may := word.May(x[0]); word.May(x[1]) != may {
			t.Errorf("P0.4: May of nil and of empty lists, %d: %t, %t", k, may, !may)
		}
	}
	w := some()
	w.Roster, w.Deeds, w.State = api.Roster{L: []int{}}, []api.Deed{}, api.State{L: []api.Entry{}, Memos: []api.Memo{}}
	mayBe(t, "empty lists", w, true)
	w = some()
	w.Roster = api.Roster{L: []int{1, 2}[:0]}
	mayBe(t, "the zero roster, with room", w, true)
	w.Roster = api.Roster{Epoch: 1, L: []int{}}
	mayBe(t, "a roster of an empty list", w, false)
	w.Roster = api.Roster{L: []int{}, New: 1}
	mayBe(t, "a roster of an empty list, and New", w, false)
}
