package roster_test

import (
	"fmt"
	"math"
	"testing"

	"armarium/api"
	"armarium/roster"
)

// told is what Has, Next and Ahead tell of n.
type told struct {
	has         bool
	next, ahead int
}

func ask(r api.Roster, n int) told {
	return told{roster.Has(r, n), roster.Next(r, n), roster.Ahead(r, n)}
}

// neighbours is a second reckoning: what is to be told of each that is there, by walking along l.
func neighbours(l []int) map[int]told {
	all, before := map[int]told{}, 0
	for _, n := range l {
		if before != 0 {
			x := all[before]
			x.next = n
			all[before] = x
		}
		all[n] = told{has: true, ahead: before}
		before = n
	}
	return all
}

func TestWhoStandsWhere(t *testing.T) {
	for _, l := range allOrders() {
		want := neighbours(l)
		for _, r := range []api.Roster{of(1, 0, l...), of(top, l[len(l)-1], l...), of(0, 4, l...), of(-1, math.MaxInt, l...)} {
			if roster.Head(r) != l[0] || roster.Tail(r) != l[len(l)-1] {
				t.Errorf("P9.1: of %v the Head is %d, the Tail %d", r, roster.Head(r), roster.Tail(r))
			}
			for _, n := range numbers() {
				if got := ask(r, n); got != want[n] {
					t.Errorf("P9.1: of %d in %v is told %v, should be %v", n, r, got, want[n])
				}
			}
		}
	}
}

func TestWhoStandsWhereByHand(t *testing.T) {
	for _, x := range []struct {
		r    api.Roster
		n    int
		want told
	}{
		{of(1, 0, 3), 3, told{true, 0, 0}},
		{of(1, 0, 3), 1, told{}},
		{of(1, 0, 3), 0, told{}},
		{of(1, 0, 3, 1), 3, told{true, 1, 0}},
		{of(1, 0, 3, 1), 1, told{true, 0, 3}},
		{of(1, 1, 3, 1), 3, told{true, 1, 0}},
		{of(1, 1, 3, 1), 1, told{true, 0, 3}},
		{of(1, 1, 3, 1), 2, told{}},
		{of(9, 0, 5, 4, 3, 2, 1), 5, told{true, 4, 0}},
		{of(9, 0, 5, 4, 3, 2, 1), 4, told{true, 3, 5}},
		{of(9, 0, 5, 4, 3, 2, 1), 3, told{true, 2, 4}},
		{of(9, 0, 5, 4, 3, 2, 1), 2, told{true, 1, 3}},
		{of(9, 0, 5, 4, 3, 2, 1), 1, told{true, 0, 2}},
		{of(9, 0, 5, 4, 3, 2, 1), 0, told{}},
		{of(9, 0, 5, 4, 3, 2, 1), 6, told{}},
		{of(9, 0, 5, 4, 3, 2, 1), -1, told{}},
		{of(9, 0, 5, 4, 3, 2, 1), math.MinInt, told{}},
		{of(9, 0, 5, 4, 3, 2, 1), math.MaxInt, told{}},
		{of(9, 0, 2, 4, 1), 3, told{}},
		{of(9, 0, 2, 4, 1), 4, told{true, 1, 2}},
	} {
		if got := ask(x.r, x.n); got != x.want {
			t.Errorf("P9.1: of %d in %v is told %v, should be %v", x.n, x.r, got, x.want)
		}
	}
}

func TestNobodyStandsThere(t *testing.T) {
	for _, l := range [][]int{nil, {}, []int{1, 2, 3}[:0]} {
		for _, r := range []api.Roster{{L: l}, {Epoch: 1, L: l}, {Epoch: 1, L: l, New: 3}, {Epoch: math.MinInt64, L: l, New: -1}} {
			if roster.Head(r) != 0 || roster.Tail(r) != 0 {
				t.Errorf("P9.1: of %v the Head is %d, the Tail %d", r, roster.Head(r), roster.Tail(r))
			}
			for _, n := range numbers() {
				if got := ask(r, n); got != (told{}) {
					t.Errorf("P9.1: of %d in %v is told %v", n, r, got)
				}
			}
		}
	}
}

func TestRoomIsNotOfTheChain(t *testing.T) {
	r := api.Roster{Epoch: 1, L: []int{4, 2, 5, 1}[:2]}
	if roster.Head(r) != 4 || roster.Tail(r) != 2 {
		t.Error("P9.1: Head or Tail, with room")
	}
	for n, want := range map[int]told{4: {true, 2, 0}, 2: {true, 0, 4}, 5: {}, 1: {}, 0: {}} {
		if got := ask(r, n); got != want {
			t.Errorf("P9.1: of %d in %v, with room, is told %v", n, r, got)
		}
	}
}

// TestChainsThatMayNotBe asks of lists which may not be, but where each number stands once, so that nothing is in doubt.
func TestChainsThatMayNotBe(t *testing.T) {
	for _, l := range [][]int{{6, 7, 8}, {1, 2, 3, 4, 5, 6, 7, 8, 9}, {-1, 5, -5}, {math.MinInt, math.MaxInt}, {1 << 32, 1<<32 + 1, 1}, {10}} {
		want, r := neighbours(l), of(0, 0, l...)
		if roster.Head(r) != l[0] || roster.Tail(r) != l[len(l)-1] {
			t.Errorf("P9.1: of %v the Head is %d, the Tail %d", r, roster.Head(r), roster.Tail(r))
		}
		for _, n := range numbers() {
			if got := ask(r, n); got != want[n] {
				t.Errorf("P9.1: of %d in %v is told %v, should be %v", n, r, got, want[n])
			}
		}
	}
}

// TestEachCallEnds asks all of rosters of any kind: nothing panics, and what is told once is told again.
func TestEachCallEnds(t *testing.T) {
	all := []api.Roster{of(1, 0, long(1000000)...), of(math.MaxInt64, math.MinInt, numbers()...)}
	for _, x := range bads() {
		all = append(all, x.r)
	}
	for k, r := range all {
		for _, n := range numbers() {
			one := fmt.Sprint(ask(r, n), roster.Head(r), roster.Tail(r), roster.May(r), roster.Eq(r, r))
			two := fmt.Sprint(ask(r, n), roster.Head(r), roster.Tail(r), roster.May(r), roster.Eq(r, r))
			if one != two {
				t.Errorf("P0.5: of %d in the roster %d is told %s, then %s", n, k, one, two)
			}
			a, ok := roster.Add(r, n)
			if ok || !zero(a) {
				t.Errorf("P0.1, P9.1: Add of %d to the roster %d: %v, %t", n, k, a, ok)
			}
			if a, ok = roster.Drop(r, n); ok || !zero(a) {
				t.Errorf("P0.1, P9.1: Drop of %d from the roster %d: %v, %t", n, k, a, ok)
			}
		}
	}
}
