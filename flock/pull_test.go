package flock_test

import (
	"fmt"
	"slices"
	"testing"

	"armarium/api"
	"armarium/flock"
)

// rows are words that are on their way: none, one, two, some, 300.
func rows() map[string][]api.Word {
	mixed := []api.Word{}
	for len(mixed) < most-40 {
		mixed = append(mixed, beat(len(mixed)), told()[len(mixed)/2%12])
	}
	for len(mixed) < most {
		mixed = append(mixed, beat(len(mixed)))
	}
	return map[string][]api.Word{
		"none": nil, "one": {some()}, "a short one": {beat(3)}, "two": {some(), beat(3)}, "two others": {beat(3), longest()},
		"as they are said": toldAndLongest(), "299": beats(most - 1), "300": beats(most), "300, mixed": mixed,
	}
}

func TestPeek(t *testing.T) {
	for what, l := range rows() {
		f := of(t, l...)
		for range 2 {
			holds(t, what, f, l)
		}
		for _, k := range []int{0, len(l) / 2, len(l) - 1} {
			if len(l) > 0 {
				peeks(t, what, f, k, l[k])
				peeks(t, what+", again", f, k, l[k])
			}
		}
		for k := len(l) - 1; k >= 0; k-- {
			peeks(t, what+", the last ones first", f, k, l[k])
		}
		holds(t, what, f, l)
	}
}

// Behind a Peek the next word is behind all, as if nobody had looked.
func TestSayBehindPeek(t *testing.T) {
	f, l := flock.New(), []api.Word{}
	for k := range 40 {
		for n, w := range l {
			peeks(t, "ahead of Say", f, n, w)
		}
		f.Peek(-1)
		f.Peek(k)
		says(t, "behind Peek", f, beat(k))
		l = append(l, beat(k))
	}
	holds(t, "behind Peeks", f, l)
}

// One word goes, from each place; the others are there in their order, and what is said next is behind all.
func TestPullAtEachPlace(t *testing.T) {
	t.Parallel()
	for what, l := range rows() {
		for k := range l {
			if len(l) > 200 && k%41 > 1 && k < len(l)-2 {
				continue
			}
			f, left := of(t, l...), slices.Delete(slices.Clone(l), k, k+1)
			pulls(t, what, f, k, l[k])
			holds(t, fmt.Sprint(what, ", without ", k), f, left)
			says(t, what, f, beat(99999))
			holds(t, fmt.Sprint(what, ", without ", k, ", and one more"), f, append(left, beat(99999)))
		}
	}
}

func TestPullAtEachPlaceOf300(t *testing.T) {
	t.Parallel()
	l := beats(most)
	for k := range l {
		f := of(t, l...)
		pulls(t, "300", f, k, l[k])
		left := slices.Delete(slices.Clone(l), k, k+1)
		says(t, "300", f, beat(most))
		for n, w := range append(left, beat(most)) {
			peeks(t, fmt.Sprint("300, without ", k), f, n, w)
		}
	}
}

// Where nothing is, nothing goes.
func TestPullWhereNothingIs(t *testing.T) {
	for what, l := range rows() {
		f, bytes := of(t, l...), size(l)
		for _, k := range outside(len(l)) {
			if w, ok := f.Pull(k); ok || !same(w, api.Word{}) {
				t.Fatalf("P12.1: %s: Pull(%d) of %d: %t, %s", what, k, len(l), ok, short(w))
			}
			counts(t, fmt.Sprint(what, ", Pull where nothing is, ", k), f, len(l), bytes)
		}
		holds(t, what+", nothing went", f, l)
		if len(l) < most {
			says(t, what, f, beat(99999))
			holds(t, what+", and one more", f, append(slices.Clone(l), beat(99999)))
		} else {
			refuses(t, what, f, beat(99999))
		}
	}
}

// All go, in some orders, until none is there; then all is as at the beginning.
func TestPullAll(t *testing.T) {
	t.Parallel()
	orders := map[string]func(n int) int{
		"the first ones first": func(n int) int { return 0 }, "the last ones first": func(n int) int { return n - 1 },
		"the middle ones first": func(n int) int { return n / 2 }, "this and that": func(n int) int { return (7*n + 3) % n },
	}
	for what, l := range rows() {
		for how, order := range orders {
			f, left := of(t, l...), slices.Clone(l)
			bytes := size(l)
			for len(left) > 0 {
				k := order(len(left))
				pulls(t, what+", "+how, f, k, left[k])
				bytes -= size(left[k : k+1])
				left = slices.Delete(left, k, k+1)
				counts(t, what+", "+how, f, len(left), bytes)
			}
			holds(t, what+", "+how+", all", f, nil)
			if w, ok := f.Pull(0); ok || !same(w, api.Word{}) {
				t.Fatalf("P12.1: %s: Pull(0) of none: %s", what, short(w))
			}
			says(t, what, f, told()...)
			holds(t, what+", from the beginning", f, told())
		}
	}
}

// What is pulled may be said again, and is behind all then.
func TestSayWhatWasPulled(t *testing.T) {
	l := toldAndLongest()
	f := of(t, l...)
	for k := range 3 * len(l) {
		k %= len(l)
		w, _ := f.Pull(k)
		says(t, "what was pulled", f, w)
		l = append(slices.Delete(slices.Clone(l), k, k+1), l[k])
		holds(t, "what was pulled", f, l)
	}
}
