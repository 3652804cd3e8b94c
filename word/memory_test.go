package word_test

import (
	"slices"
	"testing"

	"armarium/api"
	"armarium/word"
)

// roomy is w with room behind each of its lists, where something stands.
func roomy(w api.Word, room int) api.Word {
	w = clone(w)
	w.Roster.L = behind(w.Roster.L, room, -5)
	w.Deeds = behind(w.Deeds, room, put("behind", "", 1))
	for k := range w.State.L {
		w.State.L[k].Vs = behind(w.State.L[k].Vs, room, there(-5, "behind"))
	}
	w.State.L = behind(w.State.L, room, entry("behind", versions(3, 9)...))
	w.State.Memos = behind(w.State.Memos, room, memo(-5, 5, 5))
	return w
}

// behind is l with room, where x stands.
func behind[T any](l []T, room int, x T) []T {
	n := len(l)
	l = slices.Clone(l)
	for range room {
		l = append(l, x)
	}
	return l[:n]
}

// whole is w with all that stands in the room behind its lists.
func whole(w api.Word) api.Word {
	w.Roster.L, w.Deeds = w.Roster.L[:cap(w.Roster.L)], w.Deeds[:cap(w.Deeds)]
	w.State.L, w.State.Memos = slices.Clone(w.State.L[:cap(w.State.L)]), w.State.Memos[:cap(w.State.Memos)]
	for k := range w.State.L {
		w.State.L[k].Vs = w.State.L[k].Vs[:cap(w.State.L[k].Vs)]
	}
	return clone(w)
}

// spoilers each write over one of w's lists, and over the room behind it.
func spoilers(w api.Word) []func() {
	l := []func(){
		func() { fill(w.Roster.L, -77) },
		func() { fill(w.Deeds, put("spoilt", "spoilt", -77)) },
		func() { fill(w.State.Memos, memo(-77, -77, -77)) },
	}
	for k := range w.State.L {
		vs := w.State.L[k].Vs
		l = append(l, func() { fill(vs, there(-77, "spoilt")) })
	}
	return append(l, func() { fill(w.State.L, entry("spoilt", there(-77, "spoilt"))) })
}

func fill[T any](l []T, x T) {
	l = l[:cap(l)]
	for k := range l {
		l[k] = x
	}
}

func spoil(w api.Word) {
	for _, f := range spoilers(w) {
		f()
	}
}

// words are some that may be, and some that may not.
func words() []api.Word {
	l := append(told(), some(), greatest(), api.Word{})
	for _, x := range turns() {
		l = append(l, x.word())
	}
	return l
}

func TestCallsLeaveWhatIsHandedIn(t *testing.T) {
	for _, w := range words() {
		for _, room := range []int{0, 1, 20} {
			x, y := roomy(w, room), roomy(some(), room)
			was, other := whole(x), whole(y)
			s := word.Put(x)
			word.May(x)
			word.Eq(x, y)
			word.Eq(y, x)
			got, _ := word.Get(s)
			if !same(whole(x), was) || !same(whole(y), other) || !same(x, w) {
				t.Errorf("P0.3: a call changes what is handed in, room for %d: %s", room, short(w))
			}
			spoil(got)
			if !same(whole(x), was) {
				t.Errorf("P0.3: what Get answers shares memory with what was handed in, room for %d: %s", room, short(w))
			}
		}
	}
}

// A text stays what it was, whatever becomes of the word that it was made of.
func TestTextsOutlastWords(t *testing.T) {
	for _, w := range append(told(), some(), greatest()) {
		x := roomy(w, 3)
		s := word.Put(x)
		spoil(x)
		if got, err := word.Get(s); err != api.OK || !same(got, w) {
			t.Errorf("P0.3: Get of a text whose word was spoilt: error %d, %s", err, short(got))
		}
	}
}

func TestTwoAnswersOfGet(t *testing.T) {
	for _, w := range append(told(), some(), greatest()) {
		s := word.Put(w)
		first, _ := word.Get(s)
		second, _ := word.Get(s)
		was := whole(second)
		spoil(first)
		if third, err := word.Get(s); err != api.OK || !same(third, w) || !same(second, w) || !same(whole(second), was) {
			t.Errorf("P0.3: two answers of Get share memory: error %d, %s", err, short(second))
		}
		if word.Put(w) != s {
			t.Errorf("P0.5: Put answers something else when it is asked again: %s", short(w))
		}
	}
}

// Whoever writes into one list of an answer, and behind it, changes no other list of it.
func TestListsOfOneAnswerAreApart(t *testing.T) {
	for _, w := range append(told(), some(), greatest()) {
		s := word.Put(w)
		first, _ := word.Get(s)
		for k := range spoilers(first) {
			got, _ := word.Get(s)
			was := whole(got)
			spoilers(got)[k]()
			now := whole(got)
			if n := parted(was, now); n > 1 {
				t.Errorf("P0.3: %d lists of one answer of Get share memory: %s", n, short(w))
			}
		}
	}
}

// parted is how many lists differ. A list of entries that differs counts alone: what its entries have went with it.
func parted(a, b api.Word) int {
	n := 0
	for _, same := range []bool{slices.Equal(a.Roster.L, b.Roster.L), slices.Equal(a.Deeds, b.Deeds), slices.Equal(a.State.Memos, b.State.Memos)} {
		if !same {
			n++
		}
	}
	keys, lists := 0, 0
	for k, e := range a.State.L {
		if e.Key != b.State.L[k].Key {
			keys++
		} else if !slices.Equal(e.Vs, b.State.L[k].Vs) {
			lists++
		}
	}
	return n + min(keys, 1) + lists
}
