package chief_test

import (
	"fmt"
	"slices"
	"testing"

	"armarium/api"
	"armarium/roll"
)

// scribble writes into a list, and into its spare room.
func scribble(l []int) {
	l = l[:cap(l)]
	for k := range l {
		l[k] = -77
	}
}

// spare is a list with room behind it, in which there are other numbers, and all of its memory.
func spare(l ...int) ([]int, []int) {
	all := slices.Concat(l, []int{91, 92, 93})
	return all[:len(l)], all
}

func TestFirstIsNotKept(t *testing.T) {
	d := roll.New(1000)
	l, all := spare(1, 2)
	c := open(t, d, of(1, 0, l...), 0)
	if fmt.Sprint(all) != "[1 2 91 92 93]" {
		t.Errorf("P0.3: Open turns what was handed in: %v", all)
	}
	scribble(l)
	tells(t, "first is turned", c, "1 [1 2] 0 until 0")
	leased(t, "first is turned", c, 2, 1, of(1, 0, 1, 2), 7)
	hears(c, 1, 4)
	ticks(t, c, 1, 8)
	tells(t, "first is turned", c, "2 [1 2 4] 4 until 7")
	// Of one that lasts it isn't kept, either.
	l, all = spare(3, 5)
	c = open(t, d, of(1, 0, l...), 10)
	if fmt.Sprint(all) != "[3 5 91 92 93]" {
		t.Errorf("P0.3: Open turns what was handed in: %v", all)
	}
	scribble(l)
	tells(t, "first is turned", c, "2 [1 2 4] 4 until 16")
}

func TestAnswersAreNotKept(t *testing.T) {
	d := roll.New(1000)
	c := open(t, d, of(1, 0, 1, 2), 0)
	now := int64(0)
	// As it was opened, as it is Changing, behind that, behind a WFull, and opened anew.
	for k, do := range []func(){
		func() {}, func() { hears(c, 0, 3); ticks(t, c, now, now) }, func() { ticks(t, c, now, now+10) },
		func() { c.Step(full(3, 2), now) }, func() { c = open(t, d, api.Roster{}, now) },
	} {
		do()
		now += 10
		was := told(c)
		a, b := c.Roster(), c.Roster()
		want := fmt.Sprint(b)
		scribble(a.L)
		if fmt.Sprint(b) != want || told(c) != was {
			t.Errorf("P0.3, %d: Roster's list is another's, too: %v, %s", k, b, told(c))
		}
		x, y := c.Step(beat(1), now), c.Step(beat(2), now)
		if c.Changing() {
			continue
		}
		want = fmt.Sprint(y, b)
		was = told(c)
		scribble(x[0].Roster.L)
		x[0].Roster.Epoch = 99
		x = x[:cap(x)]
		for k := range x {
			x[k] = api.Word{Kind: 99}
		}
		if fmt.Sprint(y, b) != want || told(c) != was {
			t.Errorf("P0.3, %d: a lease's list is another's, too: %v, %s", k, y, told(c))
		}
		leased(t, "behind that", c, 2, now, b, now+6)
	}
}

// What is told of a change is of its own memory, too, whatever was done with what was told ahead of it.
func TestAnswersOfChanges(t *testing.T) {
	d := roll.New(1000)
	c := open(t, d, of(1, 0, 1, 2, 3), 0)
	for _, x := range []struct {
		now  int64
		do   func()
		want string
	}{
		{0, func() {}, "{1 [1 2 3] 0}"},
		{1, func() { hears(c, 1, 4); ticks(t, c, 1, 1) }, "{1 [1 2 3] 0}"},
		{7, func() { ticks(t, c, 7, 7) }, "{2 [1 2 3 4] 4}"},
		{7, func() { c.Step(full(4, 2), 7) }, "{2 [1 2 3 4] 0}"},
		{17, func() { ticks(t, c, 17, 17) }, "{2 [1 2 3 4] 0}"},
		{18, func() { ticks(t, c, 18, 18) }, "{3 [2 3 4] 0}"},
	} {
		x.do()
		if outline(c) != x.want {
			t.Fatalf("P0.3: at %d: %s, not %s", x.now, told(c), x.want)
		}
		scribble(c.Roster().L)
		for _, w := range c.Step(beat(2), x.now) {
			scribble(w.Roster.L)
		}
		if outline(c) != x.want {
			t.Fatalf("P0.3: at %d: scribbled: %s, not %s", x.now, told(c), x.want)
		}
		lasts(t, "scribbled", d.Tear(0), x.want)
	}
}

func TestWordsAreNotTurned(t *testing.T) {
	c := withNew(t, roll.New(1000), 1, 2)
	for _, w := range []api.Word{beat(1), beat(4), full(2, 2), {Kind: api.WState, From: 2}} {
		l, all := spare(3, 4)
		w.Roster = of(9, 0, l...)
		w.Deeds = []api.Deed{{Key: "a"}, {Key: "b"}, {Key: "c"}}[:1]
		w.State = api.State{L: []api.Entry{{Key: "k", Vs: []api.Version{{Ver: 3}}}}, Memos: make([]api.Memo, 1, 3)}
		was := fmt.Sprint(w, w.Deeds[:3], w.State.Memos[:3], all)
		c.Step(w, 3)
		if got := fmt.Sprint(w, w.Deeds[:3], w.State.Memos[:3], all); got != was {
			t.Errorf("P0.3: Step turns what was handed in: %s, not %s", got, was)
		}
		scribble(l)
	}
	tells(t, "words are turned", c, "2 [1 2] 0 until 9")
	ticks(t, c, 4, 10)
	tells(t, "words are turned", c, "3 [1 2 4] 4 until 9")
}
