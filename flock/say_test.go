package flock_test

import (
	"fmt"
	"testing"

	"armarium/api"
	"armarium/flock"
)

// Words that may be are on their way, one behind the other, just as they were said.
func TestSay(t *testing.T) {
	f, l := flock.New(), []api.Word{}
	holds(t, "a new one", f, nil)
	for _, w := range toldAndLongest() {
		says(t, "as it is said", f, w)
		l = append(l, w)
		holds(t, "as it is said", f, l)
	}
}

func TestSayOfEachKindAtBounds(t *testing.T) {
	for kind := 1; kind <= 11; kind++ {
		l := bounds(kind)
		holds(t, fmt.Sprint("Kind ", kind), of(t, l...), l)
	}
}

func TestSayOfEachPartAtBounds(t *testing.T) {
	right, _ := turns()
	if len(right) < 80 {
		t.Fatalf("just %d words", len(right))
	}
	f, l := flock.New(), []api.Word{}
	for _, x := range right {
		says(t, x.what, f, x.word())
		l = append(l, x.word())
		peeks(t, x.what, f, len(l)-1, x.word())
	}
	holds(t, "parts at bounds", f, l)
}

// What may not be said is not on its way, whatever is there: none, one, nearly all that may be, all.
func TestSayOfWhatMayNotBe(t *testing.T) {
	_, wrong := turns()
	if len(wrong) < 120 {
		t.Fatalf("just %d words", len(wrong))
	}
	for _, n := range []int{0, 1, most - 1, most} {
		l := beats(n)
		f, bytes := of(t, l...), size(l)
		for _, x := range append(wrong, turn{"the zero word", func(w *api.Word) { *w = api.Word{} }}) {
			refuses(t, x.what, f, x.word())
			counts(t, x.what, f, n, bytes)
		}
		holds(t, "behind what may not be", f, l)
		if f.Say(some()) != (n < most) {
			t.Fatalf("P12.1: Say behind what may not be, with %d on their way: %t", n, n == most)
		}
	}
}

// What may not be said takes no room: as many as may be said are taken beside it.
func TestWhatMayNotBeTakesNoRoom(t *testing.T) {
	_, wrong := turns()
	f, l := flock.New(), []api.Word{}
	for k := range most {
		x := wrong[k%len(wrong)]
		refuses(t, x.what, f, x.word())
		says(t, "behind "+x.what, f, beat(k))
		refuses(t, x.what, f, x.word())
		l = append(l, beat(k))
	}
	holds(t, "beside what may not be", f, l)
	refuses(t, "the 301st", f, beat(0))
}

// Three hundred are taken, and one more for each that has gone.
func TestSayOfTooMany(t *testing.T) {
	f, l := flock.New(), []api.Word{}
	for k := range most {
		if f.Len() != k {
			t.Fatalf("P12.1: Len ahead of the word %d: %d", k, f.Len())
		}
		says(t, fmt.Sprint("the word ", k), f, beat(k))
		l = append(l, beat(k))
	}
	holds(t, "300 words", f, l)
	bytes := size(l)
	for _, w := range append(toldAndLongest(), beat(0), beat(most-1), beat(most)) {
		refuses(t, "the 301st", f, w)
		counts(t, "the 301st", f, most, bytes)
	}
	holds(t, "behind the 301st", f, l)
	for n, k := range []int{0, most - 1, most / 2, 1, most - 2, 0, most - 1} {
		pulls(t, "of 300", f, k, l[k])
		l = append(append([]api.Word{}, l[:k]...), l[k+1:]...)
		holds(t, "one has gone", f, l)
		w := told()[n]
		says(t, "room for one", f, w)
		l = append(l, w)
		refuses(t, "room for one", f, beat(7))
		holds(t, "full again", f, l)
	}
}

// More go, and as many more are taken.
func TestSayAgainOnceManyHaveGone(t *testing.T) {
	l := beats(most)
	f := of(t, l...)
	for _, n := range []int{2, 17, 150, 299, 300} {
		for range n {
			pulls(t, "many go", f, 0, l[0])
			l = l[1:]
		}
		for k := range n {
			says(t, "many more", f, beat(1000*n+k))
			l = append(l, beat(1000*n+k))
		}
		refuses(t, "many more", f, beat(0))
		holds(t, "many more", f, l)
	}
}

// A word that is said again is there again.
func TestSayTwice(t *testing.T) {
	for _, w := range toldAndLongest() {
		f := of(t, w, w)
		holds(t, "twice", f, []api.Word{w, w})
		says(t, "behind another one", f, beat(9), w)
		holds(t, "three times", f, []api.Word{w, w, beat(9), w})
		pulls(t, "one of three", f, 1, w)
		holds(t, "one has gone", f, []api.Word{w, beat(9), w})
		pulls(t, "another one", f, 0, w)
		holds(t, "two have gone", f, []api.Word{beat(9), w})
	}
	l := []api.Word{}
	for range most {
		l = append(l, some())
	}
	f := of(t, l...)
	holds(t, "one word 300 times", f, l)
	refuses(t, "one word 301 times", f, some())
}

// Empty lists are said as nil ones are.
func TestSayOfEmptyLists(t *testing.T) {
	w := beat(4)
	x := clone(w)
	x.Roster.L, x.Deeds, x.State.L, x.State.Memos = []int{}, []api.Deed{}, []api.Entry{}, []api.Memo{}
	f := of(t, w, x)
	holds(t, "empty lists", f, []api.Word{w, w})
	holds(t, "empty lists", f, []api.Word{x, x})
}
