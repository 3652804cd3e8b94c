package roster_test

import (
	"fmt"
	"math"
	"slices"

	"armarium/api"
)

const top = int64(1) << 40

// of is a roster.
func of(epoch int64, fresh int, l ...int) api.Roster {
	return api.Roster{Epoch: epoch, L: l, New: fresh}
}

// same tells whether a and b are the same, by what is printed of them; no nodes are like nil.
func same(a, b api.Roster) bool { return fmt.Sprint(a) == fmt.Sprint(b) }

// zero tells whether r is the zero roster.
func zero(r api.Roster) bool { return r.Epoch == 0 && len(r.L) == 0 && r.New == 0 }

// orders are all lists of k of the nodes 1 to 5, none twice.
func orders(k int) [][]int {
	if k == 0 {
		return [][]int{nil}
	}
	var all [][]int
	for _, l := range orders(k - 1) {
		for n := 1; n <= 5; n++ {
			if !slices.Contains(l, n) {
				all = append(all, slices.Concat(l, []int{n}))
			}
		}
	}
	return all
}

// allOrders are the orders of one to five nodes: 325.
func allOrders() [][]int {
	return slices.Concat(orders(1), orders(2), orders(3), orders(4), orders(5))
}

// chains are all rosters of an epoch that may be: 645.
func chains(epoch int64) []api.Roster {
	var all []api.Roster
	for _, l := range allOrders() {
		all = append(all, of(epoch, 0, l...))
		if len(l) > 1 {
			all = append(all, of(epoch, l[len(l)-1], l...))
		}
	}
	return all
}

// numbers are those of nodes, those around them, and such as look like them where bits or a sign are lost.
func numbers() []int {
	return []int{
		-9, -6, -5, -4, -3, -2, -1, 0, 1, 2, 3, 4, 5, 6, 7, 8, 9, 10, 255, 256, 257, 261, 1<<16 + 1, 1<<31 + 2, 1<<32 + 1, 1<<32 + 5, -1<<32 + 3,
		math.MinInt, math.MinInt + 1, math.MinInt + 5, math.MaxInt, math.MaxInt - 1,
	}
}

// bad is a roster that may not be, and why.
type bad struct {
	why string
	r   api.Roster
}

// bads are rosters that may not be, each for one reason alone where that can be (six nodes have one twice, or a wrong one).
func bads() []bad {
	return []bad{
		{"the zero roster", api.Roster{}},
		{"epoch 0", of(0, 0, 1, 2, 3)}, {"epoch 0, one node", of(0, 0, 1)}, {"epoch 0, New", of(0, 3, 1, 2, 3)},
		{"epoch -1", of(-1, 0, 1, 2, 3)}, {"the least epoch", of(math.MinInt64, 0, 1, 2, 3)}, {"epoch -2^40", of(-top, 0, 1, 2)},
		{"epoch 2^40 + 1", of(top+1, 0, 1, 2, 3)}, {"epoch 2^41", of(2*top, 0, 1, 2)}, {"the greatest epoch", of(math.MaxInt64, 0, 1, 2, 3)},
		{"the greatest epoch, New", of(math.MaxInt64, 3, 1, 2, 3)}, {"the least epoch and one", of(math.MinInt64+1, 0, 1, 2, 3)},
		{"no nodes", of(3, 0)}, {"no nodes, not nil", of(3, 0, []int{}...)}, {"no nodes, with room", of(3, 0, []int{1, 2, 3}[:0]...)}, {"no nodes, New", of(3, 1)},
		{"six nodes, one of them twice", of(3, 0, 1, 2, 3, 4, 5, 1)}, {"six nodes", of(3, 0, 1, 2, 3, 4, 5, 6)}, {"ten nodes", of(3, 0, 1, 2, 3, 4, 5, 1, 2, 3, 4, 5)},
		{"six nodes, New", of(3, 6, 1, 2, 3, 4, 5, 6)},
		{"0 in front", of(3, 0, 0, 1, 2)}, {"0 within", of(3, 0, 1, 0, 2)}, {"0 behind", of(3, 0, 1, 2, 0)}, {"0 alone", of(3, 0, 0)},
		{"6 in front", of(3, 0, 6, 1, 2)}, {"6 within", of(3, 0, 1, 6, 2)}, {"6 behind", of(3, 0, 1, 2, 6)}, {"6 alone", of(3, 0, 6)}, {"6 is New", of(3, 6, 1, 2, 6)},
		{"-1 in front", of(3, 0, -1, 1, 2)}, {"-1 within", of(3, 0, 1, -1, 2)}, {"-1 behind", of(3, 0, 1, 2, -1)}, {"-1 is New", of(3, -1, 1, 2, -1)},
		{"the least number", of(3, 0, 1, math.MinInt)}, {"the greatest number", of(3, 0, math.MaxInt, 1)}, {"2^32 + 2", of(3, 0, 1, 1<<32+2)},
		{"two of a pair are one", of(3, 0, 2, 2)}, {"one twice, in front", of(3, 0, 1, 1, 2)}, {"one twice, behind", of(3, 0, 1, 2, 2)},
		{"one twice, apart", of(3, 0, 1, 2, 1)}, {"one twice, far apart", of(3, 0, 1, 2, 3, 4, 1)}, {"one thrice", of(3, 0, 3, 3, 3)},
		{"the last twice, New", of(3, 2, 2, 1, 2)}, {"the last twice next to itself, New", of(3, 2, 1, 2, 2)},
		{"New alone", of(3, 1, 1)}, {"New is the head", of(3, 1, 1, 2)}, {"New is the head of three", of(3, 1, 1, 2, 3)}, {"New is in the middle", of(3, 2, 1, 2, 3)},
		{"New is not there", of(3, 4, 1, 2, 3)}, {"New is not there, beside one", of(3, 2, 1)}, {"New is -1", of(3, -1, 1, 2)}, {"New is 6", of(3, 6, 1, 2)},
		{"New is -2", of(3, -2, 1, 2)}, {"New is 2^32 + 2", of(3, 1<<32+2, 1, 2)}, {"the least New", of(3, math.MinInt, 1, 2)}, {"the greatest New", of(3, math.MaxInt, 1, 2)},
	}
}

// long is a list of n nodes.
func long(n int) []int {
	l := make([]int, n)
	for k := range l {
		l[k] = k%5 + 1
	}
	return l
}
