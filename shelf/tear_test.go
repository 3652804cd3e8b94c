package shelf_test

import (
	"fmt"
	"maps"
	"slices"
	"strings"
	"testing"

	"armarium/api"
	"armarium/deed"
	"armarium/roll"
)

// call is one to a shelf.
type call struct {
	what string
	do   func(x *both)
}

func adds(l ...api.Deed) []call {
	calls := []call{}
	for _, d := range l {
		calls = append(calls, call{"Add of " + d.Key, func(x *both) { x.add(d) }})
	}
	return calls
}

func commits(seq int64) call {
	return call{fmt.Sprint("Commit of ", seq), func(x *both) { x.commit(seq) }}
}

func enters(epoch int64) call {
	return call{fmt.Sprint("Enter of ", epoch), func(x *both) { x.enter(epoch) }}
}

func learns(what string, b api.State, l []api.Deed) call {
	return call{"Learn of " + what, func(x *both) { x.learn(what, b, l) }}
}

func packs() call { return call{"Pack", func(x *both) { x.pack() }} }

// story is a row of calls of all kinds, with Commits that something pressed comes behind, and others.
func story() []call {
	return slices.Concat(
		adds(put(1, "a", "x"), matched(put(2, "b", "y"), api.CAbsent, ""), matched(put(3, "a", "z"), api.CMatch, deed.Tag("x"))),
		[]call{commits(1), commits(2), enters(1)},
		adds(del(1, "a"), purge(1, "a", 1), put(3, "a", "z"), lowered(put(4, "c", all()), req(1, 3))),
		[]call{commits(3), commits(4), commits(4), commits(99), commits(6)},
		adds(del(2, "none"), api.Deed{}),
		[]call{commits(7), packs(), packs(), commits(8), enters(1), enters(5), commits(-1)},
		adds(put(9, "b", "w"), put(10, "d", "")),
		[]call{commits(9), commits(10), packs(), learns("what may not be", api.State{Seq: -1}, nil)},
		[]call{learns("one key", api.State{Seq: 9, L: []api.Entry{entry("a", there(9, "k"))}}, []api.Deed{put(20, "a", "1"), del(20, "a"), put(21, "e", "2")}), commits(10), commits(11)},
		adds(matched(put(22, "a", "3"), api.CAbsent, "")),
		[]call{commits(12), commits(13), learns("nothing", api.State{}, nil), enters(6), learns("deeds", api.State{}, puts(2)), commits(1), commits(2)},
	)
}

// A fall between any two calls.
func TestTornBetween(t *testing.T) {
	t.Parallel()
	for n := range story() {
		x := roomy(t, fmt.Sprint("torn behind the call ", n))
		for _, c := range story()[:n+1] {
			c.do(x)
		}
		for k := range loose(x.c) + 1 {
			goesOn(x.on(x.c.Tear(k)))
		}
		goesOn(x.on(x.c.Tear(-1)))
	}
}

// Falls behind each call, again and again.
func TestTornAgain(t *testing.T) {
	t.Parallel()
	for n := range 80 {
		x := roomy(t, fmt.Sprint("torn again and again, ", n))
		for k, c := range story() {
			c.do(x)
			x.fall(c.what, x.c.Tear((n*(k+1)+k)%97))
			x.fall(c.what+", opened again", x.c)
			x.fall(c.what+", torn again", x.c.Tear(n))
		}
	}
}

// on is what is in another chest, of which the same may be there as behind a fall of x.
func (x *both) on(c *roll.Chest) *both {
	x.t.Helper()
	y := &both{t: x.t, what: x.what, c: c, lasts: x.lasts, came: maps.Clone(x.came)}
	y.fall("a fall", c)
	return y
}

// goesOn asks that what a fall has left goes on as a shelf does, through another fall, too.
func goesOn(x *both) {
	x.t.Helper()
	x.commits((x.s.Book().Seq + x.s.Seq() + 1) / 2)
	x.fall("a fall behind a Commit", x.c.Tear(3))
	x.commits(x.s.Seq())
	x.fine(x.add(put(500, "on", "on")), x.enter(x.s.Epoch()+1))
	if len(x.s.Pend()) != 1 {
		x.t.Fatalf("P8.2, %s: of Commits ahead of an Add %d are not there", x.what, len(x.s.Pend())-1)
	}
	x.commits(x.s.Seq())
	x.fine(x.pack())
	x.fall("a fall behind a Pack", x.c.Tear(0))
}

// written is a chest with these on its rolls, all pressed.
func written(t *testing.T, rolls map[string]string) *roll.Chest {
	t.Helper()
	c := roll.New(1 << 20)
	for name, s := range rolls {
		if c.Write(name, s) != api.OK || c.Press(name) != api.OK {
			t.Fatalf("Write of %d bytes to %s", len(s), name)
		}
	}
	return c
}

// A fall within each call's writing: behind it there is what was there ahead of the call, or behind it.
func TestTornWithin(t *testing.T) {
	t.Parallel()
	x, all, torn := roomy(t, "torn within"), 0, map[bool]int{}
	for _, c := range story() {
		before, _ := x.c.Read("LOG")
		pressed, lasts := x.c.Pressed("LOG"), x.lasts
		c.do(x)
		after, _ := x.c.Read("LOG")
		chests := []*roll.Chest{}
		if text, ok := strings.CutPrefix(after, before); ok {
			for k := range text {
				chests = append(chests, written(t, map[string]string{"LOG": after[:len(before)+k]}))
			}
			torn[true] += len(text)
		} else {
			for k := range len(after) + 1 {
				chests = append(chests, written(t, map[string]string{"LOG": before[:pressed], "NEW": after[:k]}), written(t, map[string]string{"LOG": before, "NEW": after[:k]}))
			}
			torn[false] += len(after)
		}
		y := *x
		y.what, y.lasts = "torn within "+c.what, append(slices.Clone(lasts), x.m)
		for k, chest := range chests {
			z := y.on(chest)
			if k%7 == 0 {
				goesOn(z)
			}
		}
		all += len(chests)
	}
	if torn[true] < 500 || torn[false] < 500 {
		t.Errorf("so many places were torn: %d, %v", all, torn)
	}
}

// A Commit that lies ahead of something that was pressed is there, whatever that was.
func TestCommitsLast(t *testing.T) {
	for what, press := range map[string]func(x *both){
		"Add":   func(x *both) { x.fine(x.add(put(100, "z", ""))) },
		"Enter": func(x *both) { x.fine(x.enter(3)) },
		"Pack":  func(x *both) { x.fine(x.pack()) },
	} {
		x := roomy(t, "Commits ahead of "+what)
		for _, d := range mays() {
			x.fine(x.add(d))
		}
		for _, n := range []int64{1, 2, 7, 8, int64(len(mays()))} {
			x.commits(n)
		}
		press(x)
		s := opened(t, "P8.2", x.c.Tear(0))
		if s.Book().Seq != int64(len(mays())) {
			t.Errorf("P8.2: Commits ahead of %s: %d are there", what, s.Book().Seq)
		}
	}
}

// What a fall within the first Open leaves: a shelf that has just begun, or, of a part of a leaf, what P4.1 tells.
func TestTornWithinOpen(t *testing.T) {
	c := roll.New(100)
	opened(t, "P8.2", c)
	text, _ := c.Read("LOG")
	for k := range len(text) + 1 {
		d := roll.New(100)
		if k > 0 {
			d.Write("LOG", text[:k])
		}
		d = d.Tear(k)
		if k == 0 || k == len(text) {
			tellsNothing(t, "torn within Open", opened(t, "P8.2", d))
		} else {
			corrupt(t, "a part of the first leaf", d)
		}
	}
}
