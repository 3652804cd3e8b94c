package pouch

import (
	"math"
	"testing"
)

// alike asks that Eq answers want, either way round.
func alike(t *testing.T, what string, a, b Value, want bool) {
	t.Helper()
	if Eq(a, b) != want || Eq(b, a) != want {
		t.Errorf("P2.1: Eq of %s: %v", what, !want)
	}
}

func TestEq(t *testing.T) {
	l := append(strange(), num(0), num(1), num(-1), num(math.MaxInt64), num(math.MinInt64), str(""), str("a"), str("A"), str("ab"), str("a\x00"),
		list(), list(num(0)), list(num(1)), list(str("1")), list(num(1), num(1)), list(num(1), num(2)), list(num(2), num(1)), list(list()), list(list(), list()),
		list(list(num(1), num(2))), list(list(num(1)), num(2)), list(num(1), list(num(2))), deep(6), deep(7), deep(8))
	for j, a := range l {
		for k, b := range l {
			alike(t, "two values", a, b, j == k)
			alike(t, "lists", list(num(1), a, num(2)), list(num(1), b, num(2)), j == k)
			alike(t, "lists of two", list(a, b), list(b, a), j == k)
		}
	}
}

func TestEqOfNil(t *testing.T) {
	for _, l := range [][]Value{nil, {}, make([]Value, 0, 5)} {
		for _, m := range [][]Value{nil, {}, make([]Value, 0, 5)} {
			for kind := range 5 {
				alike(t, "empty lists", Value{Kind: kind, L: l}, Value{Kind: kind, L: m}, true)
				alike(t, "empty lists in a list", list(Value{Kind: kind, L: l}), list(Value{Kind: kind, L: m}), true)
			}
		}
		alike(t, "an empty list and another one", list(), list(Value{L: l}), false)
	}
}

// Pieces of one list are other lists than it, though they begin at one place.
func TestEqOfPieces(t *testing.T) {
	l := []Value{num(1), num(1), num(1), num(2)}
	alike(t, "pieces of a list", list(l[:2]...), list(l[1:3]...), true)
	alike(t, "pieces of a list", list(l[:2]...), list(l[2:4]...), false)
	alike(t, "pieces of a list", list(l[:2]...), list(l[:3]...), false)
	a := list(Value{Kind: List, L: l[:3]}, Value{Kind: List, L: l[:2]}, Value{Kind: List, L: l[1:]})
	b := list(many(3, num(1)), many(2, num(1)), list(num(1), num(1), num(2)))
	alike(t, "lists of pieces", a, b, true)
	b.L[2].L[2] = num(3)
	alike(t, "lists of pieces", a, b, false)
	m := []Value{num(1), num(1), num(3), num(2)}
	two := func(l []Value) Value {
		return list(list(l[:2]...), Value{Kind: List, L: l[:2]}, Value{Kind: List, L: l[:3]})
	}
	alike(t, "a list behind its own beginning", two(l), two(m), false)
	alike(t, "halves", list(Value{Kind: List, L: l[:2]}, Value{Kind: List, L: l[:2]}), list(many(2, num(1)), list(num(1), num(2))), false)
}

// nest is a list of one list of one list, and so on, with v in the innermost.
func nest(n int, v Value) Value {
	for range n {
		v = list(v)
	}
	return v
}

func TestEqOfDeep(t *testing.T) {
	const n = 300000
	alike(t, "deep lists", nest(n, num(1)), nest(n, num(1)), true)
	alike(t, "deep lists", nest(n, num(1)), nest(n, num(2)), false)
	alike(t, "deep lists", nest(n, num(1)), nest(n+1, num(1)), false)
	if v := nest(n, num(1)); May(v) || Put(v) != "" {
		t.Error("P2.1: a very deep list may be")
	}
}

// twice is a list that has one list twice, which has one list twice, and so on, with v at the end.
func twice(n int, v Value) Value {
	for range n {
		v = list(v, v)
	}
	return v
}

func TestEqOfShared(t *testing.T) {
	alike(t, "lists with one list in many places", twice(60, num(1)), twice(60, num(1)), true)
	alike(t, "lists with one list in many places", twice(60, num(1)), twice(60, num(2)), false)
	alike(t, "lists with one list in many places", twice(60, num(1)), twice(61, num(1)), false)
	for n := range 70 {
		may := n <= 5
		if v := twice(n, num(1)); May(v) != may || (Put(v) != "") != may {
			t.Errorf("P2.1: May of a list with one list in many places, %d deep", n+1)
		}
	}
}

// ring is a list in a list, n of them, with the first one in the last one; each has a number, too.
func ring(n int, number func(k int) int64) Value {
	lists := make([][]Value, n)
	for k := range lists {
		lists[k] = []Value{num(number(k)), {}}
	}
	for k, l := range lists {
		l[1] = Value{Kind: List, L: lists[(k+1)%n]}
	}
	return Value{Kind: List, L: lists[0]}
}

// otherAt is 2 at the place last, and 1 at all others.
func otherAt(last int) func(int) int64 {
	return func(k int) int64 {
		if k == last {
			return 2
		}
		return 1
	}
}

func TestOfRings(t *testing.T) {
	one := otherAt(-1)
	for n := 1; n < 8; n++ {
		r := ring(n, one)
		alike(t, "a ring and itself", r, r, true)
		alike(t, "a ring and what is in it", r, r.L[1], true)
		alike(t, "a ring and a list", r, list(num(1), list(num(1), deep(9))), false)
		for m := 1; m < 8; m++ {
			alike(t, "rings", r, ring(m, one), true)
			alike(t, "rings, one with another number in it", r, ring(m, otherAt(m-1)), false)
		}
		if May(r) || Put(r) != "" {
			t.Errorf("P2.1: a ring of %d may be", n)
		}
	}
	alike(t, "great rings", ring(9973, one), ring(10007, one), true)
	alike(t, "great rings", ring(9973, otherAt(9972)), ring(10007, one), false)
	l := make([]Value, 5000)
	for k := range l {
		l[k] = Value{Kind: List, L: l}
	}
	if v := list(l...); May(v) || Put(v) != "" || !Eq(v, v) || !Eq(v, l[3]) || Eq(v, list(l[1:]...)) {
		t.Error("P2.1: a list of itself, in many places")
	}
}
