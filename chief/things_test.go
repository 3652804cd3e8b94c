package chief_test

import (
	"fmt"
	"maps"
	"math"
	"slices"
	"strings"
	"testing"

	"armarium/api"
	"armarium/chief"
	"armarium/roll"
)

const top = int64(1) << 40

// of is a roster.
func of(epoch int64, fresh int, l ...int) api.Roster {
	return api.Roster{Epoch: epoch, L: l, New: fresh}
}

// state is what a chief tells.
type state struct {
	roster         api.Roster
	until          int64
	changing, lost bool
}

func (s state) String() string {
	text := fmt.Sprintf("%d %v %d until %d", s.roster.Epoch, s.roster.L, s.roster.New, s.until)
	if s.changing {
		text += " changing"
	}
	if s.lost {
		text += " lost"
	}
	return text
}

func told(c *chief.Chief) string {
	return state{c.Roster(), c.Until(), c.Changing(), c.Lost()}.String()
}

// tells asks that the chief tells that.
func tells(t *testing.T, what string, c *chief.Chief, want string) {
	t.Helper()
	if got := told(c); got != want {
		t.Fatalf("P10.2: %s: %s, not %s", what, got, want)
	}
}

func open(t *testing.T, c *roll.Chest, first api.Roster, now int64) *chief.Chief {
	t.Helper()
	x, err := chief.Open(c, first, now)
	if err != api.OK || x == nil {
		t.Fatalf("P10.1: Open of %v: error %d", first, err)
	}
	return x
}

// fresh is a chief of a new chest.
func fresh(t *testing.T, first api.Roster, now int64) *chief.Chief {
	t.Helper()
	return open(t, roll.New(10000), first, now)
}

func beat(from int) api.Word { return api.Word{Kind: api.WBeat, From: from} }

func full(from int, epoch int64) api.Word {
	return api.Word{Kind: api.WFull, From: from, Epoch: epoch}
}

// hears has the chief be told WBeats of those, and asks nothing.
func hears(c *chief.Chief, now int64, from ...int) {
	for _, n := range from {
		c.Step(beat(n), now)
	}
}

// ticks has time go on from the one up to the other.
func ticks(t *testing.T, c *chief.Chief, from, to int64) {
	t.Helper()
	for now := from; now <= to; now++ {
		if l := c.Tick(now); len(l) != 0 {
			t.Fatalf("P10.2: Tick at %d tells %v", now, l)
		}
	}
}

// silence asks that a Step says nothing.
func silence(t *testing.T, what string, c *chief.Chief, w api.Word, now int64) {
	t.Helper()
	if l := c.Step(w, now); len(l) != 0 {
		t.Errorf("P10.2: %s: Step of %v tells %v", what, w, l)
	}
}

// leased asks that a WBeat is answered by one lease, and by nothing else.
func leased(t *testing.T, what string, c *chief.Chief, n int, now int64, r api.Roster, until int64) {
	t.Helper()
	want := []api.Word{{Kind: 2, To: n, Roster: r, Until: until}}
	if got := c.Step(beat(n), now); fmt.Sprint(got) != fmt.Sprint(want) {
		t.Errorf("P10.2: %s: a WBeat of %d at %d: %v, not %v", what, n, now, got, want)
	}
}

// chiefOf is a chief whose epoch has the roster r, and began at the time now; until is when its leases end.
type chiefOf struct {
	*chief.Chief
	d          *roll.Chest
	r          api.Roster
	now, until int64
}

// withNew is a chief whose last member has to learn: its epoch is 2, which begins at the time 2, at which all of it are heard.
func withNew(t *testing.T, d *roll.Chest, l ...int) *chief.Chief {
	t.Helper()
	last := l[len(l)-1]
	c := open(t, d, of(1, 0, l[:len(l)-1]...), 0)
	hears(c, 0, last)
	ticks(t, c, 1, 2)
	tells(t, "one is added", c, state{roster: of(2, last, l...)}.String())
	return c
}

// orders are all lists of k of the nodes 1 to 5, none twice.
func orders(k int) [][]int {
	if k == 0 {
		return [][]int{nil}
	}
	var all [][]int
	for _, l := range orders(k - 1) {
		for n := 1; n <= 5; n++ {
			if !slices.Contains(l, n) {
				all = append(all, slices.Concat(l, []int{n}))
			}
		}
	}
	return all
}

// allOrders are the orders of one to five nodes: 325.
func allOrders() [][]int {
	return slices.Concat(orders(1), orders(2), orders(3), orders(4), orders(5))
}

// without is l but n.
func without(l []int, n int) []int {
	return slices.DeleteFunc(slices.Clone(l), func(x int) bool { return x == n })
}

// times are those around 0 and at the edges of what a number can be.
func times() []int64 {
	return []int64{0, 1, 2, 9, 10, 1000, top - 6, top, 1 << 62, math.MaxInt64 - 7, math.MaxInt64 - 6, -1, -6, -7, math.MinInt64 + 1, math.MinInt64}
}

// rolls is all that is on a chest.
func rolls(c *roll.Chest) string {
	text := ""
	for _, name := range c.Names() {
		s, _ := c.Read(name)
		text += fmt.Sprintf("%s: %q, %d pressed; ", name, s, c.Pressed(name))
	}
	return text
}

// written is a chest with these rolls, of which all is pressed.
func written(t *testing.T, l map[string]string) *roll.Chest {
	t.Helper()
	c := roll.New(1 << 20)
	for _, name := range slices.Sorted(maps.Keys(l)) {
		if c.Write(name, l[name]) != api.OK || c.Press(name) != api.OK {
			t.Fatalf("Write or Press of %s", name)
		}
	}
	return c
}

// fill leaves so much room in a chest.
func fill(t *testing.T, c *roll.Chest, room int) {
	t.Helper()
	if err := c.Write("FILL", strings.Repeat("x", c.Room()-room)); err != api.OK {
		t.Fatalf("Write: error %d", err)
	}
}

// bad is a roster that may not be, and why.
type bad struct {
	why string
	r   api.Roster
}

// bads are rosters that may not be first, each for one reason alone where that can be.
func bads() []bad {
	return []bad{
		{"the zero roster", api.Roster{}},
		{"epoch 0", of(0, 0, 1, 2, 3)}, {"epoch -1", of(-1, 0, 1, 2, 3)}, {"the least epoch", of(math.MinInt64, 0, 1)},
		{"epoch 2^40 + 1", of(top+1, 0, 1, 2, 3)}, {"the greatest epoch", of(math.MaxInt64, 0, 1)},
		{"no nodes", of(1, 0)}, {"no nodes, not nil", of(1, 0, []int{}...)}, {"no nodes, with room", of(1, 0, []int{1, 2}[:0]...)},
		{"six nodes", of(1, 0, 1, 2, 3, 4, 5, 6)}, {"six nodes, one of them twice", of(1, 0, 1, 2, 3, 4, 5, 1)}, {"a million nodes", of(1, 0, make([]int, 1000000)...)},
		{"0 in front", of(1, 0, 0, 1)}, {"0 behind", of(1, 0, 1, 0)}, {"6 in front", of(1, 0, 6, 1)}, {"6 behind", of(1, 0, 1, 6)}, {"-1", of(1, 0, 1, -1, 2)},
		{"2^32 + 1", of(1, 0, 1<<32+1)}, {"the least number", of(1, 0, 1, math.MinInt)}, {"the greatest number", of(1, 0, math.MaxInt, 1)},
		{"one twice", of(1, 0, 2, 2)}, {"one twice, apart", of(1, 0, 2, 1, 2)},
		{"New, which is the last one", of(1, 2, 1, 2)}, {"New, the last one of five", of(7, 5, 1, 2, 3, 4, 5)},
		{"New alone", of(1, 1, 1)}, {"New is the head", of(1, 1, 1, 2)}, {"New is in the middle", of(1, 2, 1, 2, 3)}, {"New is not there", of(1, 4, 1, 2, 3)},
		{"New is -1", of(1, -1, 1, 2)}, {"New is 6", of(1, 6, 1, 2)}, {"New is 2^32", of(1, 1<<32, 1, 2)},
	}
}
