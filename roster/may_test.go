package roster_test

import (
	"fmt"
	"math"
	"slices"
	"testing"

	"armarium/api"
	"armarium/roster"
)

// allowed is a second reckoning of May, by how often each number is there.
func allowed(r api.Roster) bool {
	often := map[int]int{}
	for _, n := range r.L {
		often[n]++
	}
	nodes := 0
	for n := 1; n <= 5; n++ {
		nodes += min(often[n], 1)
	}
	// Where each is a node, and once there, no more are there than there are nodes.
	ok := r.Epoch > 0 && r.Epoch < 1099511627777 && nodes > 0 && nodes == len(r.L)
	if r.New != 0 {
		ok = ok && nodes > 1 && slices.Index(r.L, r.New) == nodes-1
	}
	return ok
}

func mayBe(t *testing.T, what string, r api.Roster, want bool) {
	t.Helper()
	if roster.May(r) != want {
		t.Errorf("P9.1: May, %s: %t of %v", what, !want, r)
	}
	if allowed(r) != want {
		t.Errorf("the second reckoning of May, %s: %t of %v", what, !want, r)
	}
}

func TestMayOfEpochs(t *testing.T) {
	for epoch, want := range map[int64]bool{
		0: false, 1: true, 2: true, 3: true, 5: true, 6: true, 255: true, 256: true, 1 << 16: true, 1 << 31: true, 1<<32 - 1: true, 1 << 32: true, 1<<32 + 1: true,
		top - 1: true, top: true, top + 1: false, top + 2: false, 2 * top: false, 2*top + 1: false, 1 << 62: false, math.MaxInt64 - 1: false, math.MaxInt64: false,
		-1: false, -2: false, -top: false, -top + 1: false, math.MinInt64: false, math.MinInt64 + 1: false,
	} {
		mayBe(t, "an epoch, one node", of(epoch, 0, 1), want)
		mayBe(t, "an epoch, three nodes", of(epoch, 0, 4, 2, 5), want)
		mayBe(t, "an epoch, five nodes and New", of(epoch, 3, 1, 2, 4, 5, 3), want)
		mayBe(t, "an epoch, no nodes", of(epoch, 0), false)
	}
}

func TestMayOfEveryOrder(t *testing.T) {
	if n := len(allOrders()); n != 325 {
		t.Fatal("the orders of one to five nodes are", n)
	}
	for _, l := range allOrders() {
		mayBe(t, "an order", of(1, 0, l...), true)
		// With each of them in place of another one, so that it is there twice, next to itself or apart.
		for k := range l {
			for n := range l {
				x := slices.Clone(l)
				x[k] = l[n]
				mayBe(t, "one in place of another", of(1, 0, x...), k == n)
				mayBe(t, "one once more", of(1, 0, slices.Insert(slices.Clone(l), k, l[n])...), false)
			}
		}
	}
}

func TestMayOfCounts(t *testing.T) {
	mayBe(t, "nil", api.Roster{Epoch: 1}, false)
	mayBe(t, "an empty list", api.Roster{Epoch: 1, L: []int{}}, false)
	mayBe(t, "an empty list with room", api.Roster{Epoch: 1, L: []int{1, 2, 3}[:0]}, false)
	mayBe(t, "a list with room", api.Roster{Epoch: 1, L: []int{1, 2, 2, 2}[:2]}, true)
	mayBe(t, "a list with room, New", api.Roster{Epoch: 1, L: []int{1, 2, 3}[:2], New: 2}, true)
	mayBe(t, "a list with room, New behind it", api.Roster{Epoch: 1, L: []int{1, 2, 3}[:2], New: 3}, false)
	for n, want := range map[int]bool{1: true, 2: true, 3: true, 4: true, 5: true, 6: false, 7: false, 10: false, 256: false, 257: false, 258: false, 65537: false, 1000000: false} {
		mayBe(t, fmt.Sprint(n, " nodes"), of(1, 0, long(n)...), want)
	}
	for _, l := range orders(5) {
		for n := -1; n <= 7; n++ {
			mayBe(t, "a sixth", of(1, 0, slices.Concat(l, []int{n})...), false)
			mayBe(t, "a sixth in front", of(1, 0, slices.Concat([]int{n}, l)...), false)
			mayBe(t, "a sixth, which is New", of(1, n, slices.Concat(l, []int{n})...), false)
		}
	}
}

func TestMayOfNumbers(t *testing.T) {
	for _, l := range allOrders() {
		for k := range l {
			for _, n := range numbers() {
				x := slices.Clone(l)
				x[k] = n
				want := 1 <= n && n <= 5 && (l[k] == n || !slices.Contains(l, n))
				mayBe(t, "a number in place of a node", of(9, 0, x...), want)
			}
		}
	}
}

// TestMayOfAllLists asks May of each list of at most five numbers from -1 to 7, with New none and the last.
func TestMayOfAllLists(t *testing.T) {
	l := []int{}
	var walk func()
	walk = func() {
		fresh := append([]int{0}, l...)[len(l)]
		for _, r := range []api.Roster{of(1, 0, l...), of(1, fresh, l...)} {
			if got := roster.May(r); got != allowed(r) {
				t.Errorf("P9.1: May of %v: %t", r, got)
			}
		}
		if len(l) == 5 {
			return
		}
		for n := -1; n <= 7; n++ {
			l = append(l, n)
			walk()
			l = l[:len(l)-1]
		}
	}
	walk()
}

func TestMayOfNew(t *testing.T) {
	for _, l := range allOrders() {
		for _, fresh := range numbers() {
			want := fresh == 0 || len(l) > 1 && fresh == l[len(l)-1]
			mayBe(t, "New", of(2, fresh, l...), want)
		}
	}
	for what, x := range map[string]struct {
		fresh int
		l     []int
		want  bool
	}{
		"none beside one":          {0, []int{3}, true},
		"the only one":             {3, []int{3}, false},
		"another beside one":       {2, []int{3}, false},
		"the last of two":          {2, []int{3, 2}, true},
		"the first of two":         {3, []int{3, 2}, false},
		"not there of two":         {1, []int{3, 2}, false},
		"the last of three":        {1, []int{3, 2, 1}, true},
		"the middle of three":      {2, []int{3, 2, 1}, false},
		"the last of five":         {5, []int{1, 2, 3, 4, 5}, true},
		"the last but one of five": {4, []int{1, 2, 3, 4, 5}, false},
		"the least of five":        {1, []int{1, 2, 3, 4, 5}, false},
		"beside nobody":            {1, nil, false},
		"the last, less":           {-2, []int{3, 2}, false},
	} {
		mayBe(t, "New is "+what, of(2, x.fresh, x.l...), x.want)
	}
}

func TestMayOfBads(t *testing.T) {
	for _, x := range bads() {
		mayBe(t, x.why, x.r, false)
	}
}

// TestMayOfMixes mixes parts that may be with parts that may not, so that one does not make up for another.
func TestMayOfMixes(t *testing.T) {
	lists := [][]int{nil, {1}, {5}, {6}, {0}, {1, 2}, {2, 1}, {2, 2}, {1, 2, 3}, {1, 2, 3, 4, 5}, {5, 4, 3, 2, 1}, {1, 2, 3, 4, 5, 6}, {1, 2, 3, 4, 5, 5}, {-1, 2}}
	count := 0
	for _, epoch := range []int64{math.MinInt64, -1, 0, 1, 2, top - 1, top, top + 1, math.MaxInt64} {
		for _, l := range lists {
			for fresh := -2; fresh <= 7; fresh++ {
				r := of(epoch, fresh, l...)
				if roster.May(r) != allowed(r) {
					t.Errorf("P9.1: May of %v: %t", r, !allowed(r))
				}
				if allowed(r) {
					count++
				}
			}
		}
	}
	// Four epochs, seven lists, and New the last of five of them.
	if count != 4*(7+5) {
		t.Error("of the mixes may be", count)
	}
}
