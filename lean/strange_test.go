package lean_test

import (
	"math"
	"slices"
	"testing"

	"armarium/api"
	"armarium/lean"
)

// strange are rosters that no chain has. Where a 0 is in the list, New is another number.
func strange() []api.Roster {
	return []api.Roster{
		of(0, 2, 2), of(0, 2, 2, 2), of(0, 4, 1, 4), of(0, 1, 4, 1), of(0, 3, 5, 5, 3), of(0, 1, 2, 3, 4, 5, 1, 2, 3, 4, 5), of(0, 5, 5, 5, 5, 5, 5, 4),
		of(2, 2, 2), of(2, 2, 4, 2), of(4, 2, 4, 4, 2), of(5, 1, 2, 3, 4, 5, 5, 4, 3, 2, 1), of(1, 1, 1, 1, 1, 1, 1),
		of(0, 6), of(0, -1), of(0, 6, 7), of(0, 7, 6), of(0, -1, -2), of(0, -2, -1), of(0, 9, -9), of(0, -9, 9), of(0, 7, 7),
		of(6, 6), of(-1, -1), of(6, 6, 7), of(7, 6, 7), of(-1, -1, -2), of(-2, -1, -2), of(7, 7, 7), of(7, 7, 8, 7), of(-3, 9, -3, 8),
		of(0, 6, 1), of(0, 1, 6), of(0, -1, 5), of(0, 5, -1), of(0, 2, -7, 9, 3), of(0, 6, 1, 6), of(1, 6, 1), of(1, 1, -6, 1, 8), of(6, 6, 1), of(-1, 3, -1),
		of(3, 3, 6, 7), of(3, 7, 6, 3), of(3, 3, -4), of(3, 3, math.MinInt, math.MaxInt), of(9, 9, 4, 9), of(7, 3, 3), of(-5, 3, 4),
		of(9, 0), of(9, 0, 7), of(9, 7, 0), of(9, 0, -1), of(9, -1, 0), of(9, 0, 3), of(9, 3, 0), of(3, 3, 0), of(3, 0, 3, 8), of(9, 0, 0), of(9, 0, 2, 0, 1),
		of(0, math.MinInt), of(0, math.MaxInt), of(0, math.MaxInt, math.MinInt), of(0, math.MinInt, 2, math.MaxInt), of(math.MinInt, math.MinInt), of(math.MaxInt, math.MaxInt, math.MinInt),
		of(0, 1<<32+1, 1<<32+2), of(0, 1<<32+5, 4), of(1<<32+4, 4, 5), of(0, 256+1, 256+2, 1<<16+3),
	}
}

func TestPickOfStrangeRosters(t *testing.T) {
	l := weigh(few())
	for _, r := range strange() {
		picks(t, r, l)
	}
}

// TestShareOfStrangeRosters has each number's share as often as the number stands in the list. (Whether a 0 that stands
// there is Picked where Pick is 0 the chapter leaves open, so no such list is asked.)
func TestShareOfStrangeRosters(t *testing.T) {
	keys := few()
	for _, r := range strange() {
		if lean.Pick(r, "") != 0 || !slices.Contains(r.L, 0) {
			shared(t, r, keys)
		}
	}
}

// TestAnyNodeAheadOfStrangers has a node that weighs 0, and numbers of no node, which weigh -1.
func TestAnyNodeAheadOfStrangers(t *testing.T) {
	for _, n := range strangers() {
		for m := 1; m <= 5; m++ {
			for _, r := range []api.Roster{of(9999, m, n), of(9999, n, m), of(9999, n, m, n)} {
				if x := lean.Pick(r, level); x != m {
					t.Errorf("P14.1: Pick(%v, %q): %d, not %d", r, level, x, m)
				}
			}
		}
	}
}

// TestEveryListOfThree has all lists of up to three numbers around those of nodes, and each New.
func TestEveryListOfThree(t *testing.T) {
	l := weigh([]string{"", "a", "b", "key/9", level, "k57214"})
	var lists [][]int
	for a := -1; a <= 7; a++ {
		lists = append(lists, []int{a})
		for b := -1; b <= 7; b++ {
			lists = append(lists, []int{a, b})
			for c := -1; c <= 7; c++ {
				lists = append(lists, []int{a, b, c})
			}
		}
	}
	for _, o := range lists {
		for fresh := -2; fresh <= 8; fresh++ {
			if fresh != 0 || !slices.Contains(o, 0) {
				picks(t, of(fresh, o...), l)
			}
		}
	}
}

// TestLongLists has lists of a million numbers, and many keys.
func TestLongLists(t *testing.T) {
	keys := many()
	nodes, others := make([]int, 1000000), make([]int, 1000000)
	for k := range nodes {
		nodes[k], others[k] = k%4+1, k*7+6
	}
	few := lean.Share(of(0, 1, 2, 3, 4), keys)
	for k, n := range lean.Share(of(0, nodes...), keys) {
		if n != few[k%4] {
			t.Fatalf("P14.1: Share of a million numbers: at the place %d %d, not %d", k, n, few[k%4])
		}
	}
	for k, n := range lean.Share(of(6, others...), keys) {
		if k == 1 && n != len(keys) || k != 1 && n != 0 {
			t.Fatalf("P14.1: Share of a million numbers of no node: at the place %d %d", k, n)
		}
	}
	for n := 1; n <= 4; n++ {
		if x := lean.Pick(of(n, slices.Repeat([]int{n}, 1000000)...), "a"); x != 0 {
			t.Errorf("P14.1: Pick of New, a million times: %d", x)
		}
	}
}
