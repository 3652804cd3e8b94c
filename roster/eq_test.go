package roster_test

import (
	"fmt"
	"math"
	"slices"
	"testing"

	"armarium/api"
	"armarium/roster"
)

func eq(t *testing.T, what string, a, b api.Roster, want bool) {
	t.Helper()
	if roster.Eq(a, b) != want || roster.Eq(b, a) != want {
		t.Errorf("P9.1: Eq, %s: %t of %v and %v", what, !want, a, b)
	}
	if !roster.Eq(a, a) || !roster.Eq(b, b) {
		t.Errorf("P9.1: Eq of a roster and itself, %s: false of %v or %v", what, a, b)
	}
}

func TestEqOfOnePart(t *testing.T) {
	base := of(7, 3, 4, 2, 3)
	eq(t, "the same", base, of(7, 3, 4, 2, 3), true)
	for _, epoch := range []int64{0, 1, 6, 8, -7, 7 + 1<<8, 7 + 1<<32, 7 - 1<<32, top, math.MaxInt64, math.MinInt64, math.MinInt64 + 7} {
		eq(t, "another epoch", base, of(epoch, 3, 4, 2, 3), false)
	}
	for _, fresh := range []int{0, 1, 2, 4, 5, 6, -3, 3 + 1<<8, 3 + 1<<32, math.MaxInt, math.MinInt, math.MinInt + 3} {
		eq(t, "another New", base, of(7, fresh, 4, 2, 3), false)
	}
	for k, was := range base.L {
		for _, n := range numbers() {
			l := slices.Clone(base.L)
			l[k] = n
			eq(t, "another node", base, of(7, 3, l...), n == was)
		}
	}
}

func TestEqOfOrdersAndLengths(t *testing.T) {
	eq(t, "two turned", of(7, 0, 1, 2), of(7, 0, 2, 1), false)
	eq(t, "first two turned", of(7, 0, 1, 2, 3), of(7, 0, 2, 1, 3), false)
	eq(t, "last two turned", of(7, 0, 1, 2, 3), of(7, 0, 1, 3, 2), false)
	eq(t, "ends turned", of(7, 0, 1, 2, 3), of(7, 0, 3, 2, 1), false)
	l := []int{1, 2, 3, 4, 5, 6}
	for a := range 7 {
		for b := range 7 {
			eq(t, "the first ones", of(7, 0, l[:a]...), of(7, 0, l[:b]...), a == b)
			eq(t, "the last ones", of(7, 0, l[a:]...), of(7, 0, l[b:]...), a == b)
		}
	}
	eq(t, "one more 0", of(7, 0, 1), of(7, 0, 1, 0), false)
	eq(t, "one 0", of(7, 0), of(7, 0, 0), false)
}

func TestEqOfNone(t *testing.T) {
	for _, r := range []api.Roster{{}, {Epoch: 1}, {New: 3}, {Epoch: top, New: 5}} {
		empty, room := r, r
		empty.L, room.L = []int{}, []int{1, 2, 3}[:0]
		eq(t, "nil and empty", r, empty, true)
		eq(t, "nil and empty with room", r, room, true)
		eq(t, "empty, and empty with room", empty, room, true)
		one := r
		one.L = []int{1}
		eq(t, "nil and one", r, one, false)
		eq(t, "empty and one", empty, one, false)
		eq(t, "empty with room and one", room, one, false)
	}
	eq(t, "empty of other epochs", of(1, 0), of(2, 0, []int{}...), false)
	eq(t, "empty of other New", of(1, 0), of(1, 2, []int{}...), false)
}

// TestEqOfAll holds each two rosters of an epoch against one another, and each against itself a little later.
func TestEqOfAll(t *testing.T) {
	all := slices.Concat(chains(3), []api.Roster{of(4, 0, 1), of(4, 2, 1, 2), of(3, 0), of(3, 1, 1), of(3, 1, 1, 2), {}})
	texts := make([]string, len(all))
	for k, r := range all {
		texts[k] = fmt.Sprint(r)
	}
	for a, r := range all {
		for b, s := range all {
			if got := roster.Eq(r, s); got != (texts[a] == texts[b]) {
				t.Errorf("P9.1: Eq of %v and %v: %t", r, s, got)
			}
		}
		s := r
		s.Epoch++
		eq(t, "a later epoch", r, s, false)
	}
}

func TestEqOfWhatMayNotBe(t *testing.T) {
	for k, a := range bads() {
		b := a.r
		b.L = slices.Clone(b.L)
		eq(t, a.why, a.r, b, true)
		for _, c := range bads()[:k] {
			eq(t, a.why+" and "+c.why, a.r, c.r, same(a.r, c.r))
		}
	}
	a, b := long(1000000), long(1000000)
	eq(t, "long lists", of(1, 0, a...), of(1, 0, b...), true)
	b[999999]++
	eq(t, "long lists with other ends", of(1, 0, a...), of(1, 0, b...), false)
	eq(t, "long lists, one of them longer", of(1, 0, a...), of(1, 0, a[:999999]...), false)
}

func TestEqDoesNotAskForRoom(t *testing.T) {
	a, b := api.Roster{Epoch: 1, L: []int{1, 2, 3, 4}[:2], New: 2}, api.Roster{Epoch: 1, L: []int{1, 2, 5}[:2], New: 2}
	eq(t, "other room", a, b, true)
	eq(t, "room and none", a, of(1, 2, 1, 2), true)
}
