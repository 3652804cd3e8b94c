package roster_test

import (
	"math"
	"slices"
	"testing"

	"armarium/api"
	"armarium/roster"
)

// turn is a roster and a number, and what is to come of them: the zero roster where that may not be.
type turn struct {
	r    api.Roster
	n    int
	want api.Roster
}

// turned holds what came of a call against what was to come.
func turned(t *testing.T, what string, x turn, got api.Roster, ok bool) {
	t.Helper()
	if !same(got, x.want) || ok != !zero(x.want) {
		t.Errorf("P9.1: %s of %d, %v: %v, %t, should be %v", what, x.n, x.r, got, ok, x.want)
	}
}

func added(t *testing.T, x turn) {
	t.Helper()
	got, ok := roster.Add(x.r, x.n)
	turned(t, "Add", x, got, ok)
}

func dropped(t *testing.T, x turn) {
	t.Helper()
	got, ok := roster.Drop(x.r, x.n)
	turned(t, "Drop", x, got, ok)
}

// epochs are such as may be.
func epochs() []int64 {
	return []int64{1, 2, 7, 1<<31 - 1, 1<<32 - 1, 1 << 32, top - 2, top - 1, top}
}

// grown is a second reckoning of Add, to a roster that may be.
func grown(r api.Roster, n int) api.Roster {
	if r.Epoch == top || r.New != 0 || n < 1 || n > 5 || slices.Index(r.L, n) >= 0 {
		return api.Roster{}
	}
	l := make([]int, len(r.L)+1)
	copy(l, r.L)
	l[len(r.L)] = n
	return api.Roster{Epoch: r.Epoch + 1, L: l, New: n}
}

// shrunk is a second reckoning of Drop, from a roster that may be.
func shrunk(r api.Roster, n int) api.Roster {
	var l []int
	for _, m := range r.L {
		if m != n {
			l = append(l, m)
		}
	}
	x := api.Roster{Epoch: r.Epoch + 1, L: l, New: r.New}
	if n == r.New {
		x.New = 0
	}
	if r.Epoch == top || len(l) == len(r.L) || len(l) == 0 || len(l) == 1 && x.New != 0 {
		return api.Roster{}
	}
	return x
}

func TestTurnsOfEveryChain(t *testing.T) {
	for _, epoch := range epochs() {
		all := chains(epoch)
		if len(all) != 645 {
			t.Fatal("the chains of an epoch are", len(all))
		}
		for _, r := range all {
			for _, n := range numbers() {
				added(t, turn{r, n, grown(r, n)})
				dropped(t, turn{r, n, shrunk(r, n)})
			}
		}
	}
}

func TestAdd(t *testing.T) {
	none := api.Roster{}
	for _, x := range []turn{
		{of(3, 0, 1), 2, of(4, 2, 1, 2)},
		{of(3, 0, 2), 1, of(4, 1, 2, 1)},
		{of(3, 0, 5, 4), 1, of(4, 1, 5, 4, 1)},
		{of(3, 0, 5, 1, 4), 2, of(4, 2, 5, 1, 4, 2)},
		{of(1, 0, 4, 3, 2, 1), 5, of(2, 5, 4, 3, 2, 1, 5)},
		{of(1, 0, 5, 4, 3, 2), 1, of(2, 1, 5, 4, 3, 2, 1)},
		{of(top-1, 0, 1), 2, of(top, 2, 1, 2)},
		// At the last epoch.
		{of(top, 0, 1), 2, none},
		{of(top, 0, 1, 2, 3, 4), 5, none},
		// A sixth.
		{of(1, 0, 1, 2, 3, 4, 5), 6, none},
		{of(1, 0, 1, 2, 3, 4, 5), 1, none},
		{of(1, 0, 1, 2, 3, 4, 5), 0, none},
		{of(1, 0, 1, 2, 3, 4, 5), 5, none},
		// One that is there.
		{of(3, 0, 1), 1, none},
		{of(3, 0, 1, 2, 3), 1, none},
		{of(3, 0, 1, 2, 3), 2, none},
		{of(3, 0, 1, 2, 3), 3, none},
		// No node.
		{of(3, 0, 1), 0, none},
		{of(3, 0, 1), 6, none},
		{of(3, 0, 1), -1, none},
		{of(3, 0, 1), -2, none},
		{of(3, 0, 1), math.MinInt, none},
		{of(3, 0, 1), math.MaxInt, none},
		{of(3, 0, 1), 1<<32 + 2, none},
		// Beside a New one.
		{of(3, 2, 1, 2), 3, none},
		{of(3, 2, 1, 2), 2, none},
		{of(3, 2, 1, 2), 1, none},
		{of(3, 2, 1, 2), 0, none},
		{of(3, 5, 1, 2, 3, 5), 4, none},
	} {
		added(t, x)
	}
}

func TestDrop(t *testing.T) {
	none := api.Roster{}
	for _, x := range []turn{
		// Nobody is New.
		{of(3, 0, 1, 2), 1, of(4, 0, 2)},
		{of(3, 0, 1, 2), 2, of(4, 0, 1)},
		{of(3, 0, 3, 1, 2), 3, of(4, 0, 1, 2)},
		{of(3, 0, 3, 1, 2), 1, of(4, 0, 3, 2)},
		{of(3, 0, 3, 1, 2), 2, of(4, 0, 3, 1)},
		{of(1, 0, 5, 3, 1, 2, 4), 5, of(2, 0, 3, 1, 2, 4)},
		{of(1, 0, 5, 3, 1, 2, 4), 1, of(2, 0, 5, 3, 2, 4)},
		{of(1, 0, 5, 3, 1, 2, 4), 4, of(2, 0, 5, 3, 1, 2)},
		// One of three or more is New.
		{of(3, 2, 3, 1, 2), 3, of(4, 2, 1, 2)},
		{of(3, 2, 3, 1, 2), 1, of(4, 2, 3, 2)},
		{of(3, 2, 3, 1, 2), 2, of(4, 0, 3, 1)},
		{of(3, 4, 5, 3, 1, 2, 4), 5, of(4, 4, 3, 1, 2, 4)},
		{of(3, 4, 5, 3, 1, 2, 4), 2, of(4, 4, 5, 3, 1, 4)},
		{of(3, 4, 5, 3, 1, 2, 4), 4, of(4, 0, 5, 3, 1, 2)},
		// One of two is New.
		{of(3, 2, 1, 2), 2, of(4, 0, 1)},
		{of(3, 2, 1, 2), 1, none},
		{of(3, 1, 2, 1), 1, of(4, 0, 2)},
		{of(3, 1, 2, 1), 2, none},
		// The only one.
		{of(3, 0, 1), 1, none},
		{of(3, 0, 5), 5, none},
		// At the last epoch.
		{of(top-1, 0, 1, 2), 2, of(top, 0, 1)},
		{of(top, 0, 1, 2), 2, none},
		{of(top, 2, 1, 2), 2, none},
		{of(top, 0, 1, 2, 3), 1, none},
		// One that is not there.
		{of(3, 0, 1, 2), 3, none},
		{of(3, 0, 1, 2), 0, none},
		{of(3, 0, 1, 2), 6, none},
		{of(3, 0, 1, 2), -1, none},
		{of(3, 2, 1, 2), 0, none},
		{of(3, 2, 1, 2), 3, none},
		{of(3, 0, 1), 2, none},
		{of(3, 0, 1, 2), math.MinInt, none},
		{of(3, 0, 1, 2), math.MaxInt, none},
		{of(3, 0, 1, 2), 1<<32 + 2, none},
	} {
		dropped(t, x)
	}
}

func TestTurnsOfWhatMayNotBe(t *testing.T) {
	for _, x := range bads() {
		for _, n := range slices.Concat(numbers(), x.r.L) {
			added(t, turn{x.r, n, api.Roster{}})
			dropped(t, turn{x.r, n, api.Roster{}})
		}
	}
}

// TestTurnsThatWouldMend hands in rosters that may not be, of which such would come as may be.
func TestTurnsThatWouldMend(t *testing.T) {
	none := api.Roster{}
	for _, x := range []turn{
		{of(0, 0, 1), 2, none}, {of(0, 0, 1, 2, 3, 4), 5, none},
		// It was New already that is to be added, or somebody else is.
		{of(3, 2, 1), 2, none}, {of(3, 1, 1), 2, none}, {of(3, 5, 1, 2), 3, none}, {of(3, -1, 1), 2, none}, {of(3, 6, 1), 2, none},
	} {
		added(t, x)
	}
	for _, x := range []turn{
		{of(0, 0, 1, 2), 1, none}, {of(0, 3, 1, 2, 3), 1, none}, {of(0, 2, 1, 2), 2, none},
		{of(3, 0, 1, 2, 6), 6, none}, {of(3, 0, 0, 1, 2), 0, none}, {of(3, 0, 1, -1, 2), -1, none}, {of(3, 6, 1, 2, 6), 6, none}, {of(3, -1, 1, -1), -1, none},
		{of(3, 0, 1, 2, 1), 1, none}, {of(3, 0, 2, 2, 1), 2, none}, {of(3, 0, 1, 2, 3, 4, 5, 1), 1, none}, {of(3, 0, 1, 2, 3, 4, 5, 6), 6, none}, {of(3, 2, 1, 2, 2), 2, none},
		{of(3, 1, 1, 2), 1, none}, {of(3, 2, 1, 2, 3), 2, none}, {of(3, 2, 1, 2, 3), 3, none}, {of(3, 1, 1, 2, 3), 1, none}, {of(3, 1, 1), 1, none},
	} {
		dropped(t, x)
	}
}

// TestWhatComesMayBe follows what comes of turns: each may be, and is turned on in its turn.
func TestWhatComesMayBe(t *testing.T) {
	for _, r := range chains(3) {
		for n := 1; n <= 5; n++ {
			if x, ok := roster.Add(r, n); ok {
				mayBe(t, "what comes of Add", x, true)
				dropped(t, turn{x, n, api.Roster{Epoch: 5, L: r.L}})
				added(t, turn{x, n%5 + 1, api.Roster{}})
			}
			if x, ok := roster.Drop(r, n); ok {
				mayBe(t, "what comes of Drop", x, true)
				dropped(t, turn{x, n, api.Roster{}})
				added(t, turn{x, n, grown(x, n)})
			}
		}
	}
}
