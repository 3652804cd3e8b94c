package chief_test

import (
	"fmt"
	"math"
	"slices"
	"testing"

	"armarium/api"
	"armarium/chief"
	"armarium/roll"
)

// fails asks that the chief is Lost for ever, that it tells its roster as it was, and that each call is nothing.
func fails(t *testing.T, what string, c *chief.Chief, d *roll.Chest, was state) {
	t.Helper()
	was.changing, was.lost = false, true
	tells(t, what, c, was.String())
	before := rolls(d)
	for _, now := range []int64{0, 50, 500, math.MaxInt64, math.MinInt64} {
		for kind := -1; kind <= 13; kind++ {
			for from := -1; from <= 6; from++ {
				for _, epoch := range []int64{0, was.roster.Epoch, was.roster.Epoch + 1} {
					silence(t, what, c, api.Word{Kind: kind, From: from, Epoch: epoch}, now)
				}
			}
		}
		if l := c.Tick(now); len(l) != 0 {
			t.Errorf("P10.2: %s: Tick tells %v", what, l)
		}
		tells(t, what, c, was.String())
	}
	if rolls(d) != before {
		t.Errorf("P10.2: %s: the chest is turned", what)
	}
}

// At each call that writes, and each byte of room that is left then.
func TestChestThatFails(t *testing.T) {
	for _, x := range writing(t) {
		enough := 0
		for room := range 100 {
			d := roll.New(1000)
			c := open(t, d, of(1, 0, 1, 2), 0)
			for _, y := range story()[:x.k] {
				y.do(c)
			}
			was := state{c.Roster(), c.Until(), c.Changing(), c.Lost()}
			fill(t, d, room)
			story()[x.k].do(c)
			what := fmt.Sprintf("%s with room for %d", story()[x.k].what, room)
			if !c.Lost() {
				if c.Changing() || outline(c) != x.is {
					t.Fatalf("P10.2: %s: neither is it done, nor is the chief Lost: %s", what, told(c))
				}
				lasts(t, what, d.Tear(0), outline(c))
				enough++
				continue
			}
			if enough > 0 {
				t.Errorf("P10.2: %s: there was room with less", what)
			}
			fails(t, what, c, d, was)
			if d.Cut("FILL", 0) != api.OK {
				t.Fatal("Cut")
			}
			fails(t, what+", and then for more", c, d, was)
			lasts(t, what, d.Tear(room), x.was)
			again(t, what, lasts(t, what, d, x.was))
		}
		if enough == 0 || enough == 100 {
			t.Errorf("P10.2: %s: there was room for it %d times of 100", story()[x.k].what, enough)
		}
	}
}

// again asks that a chief goes on that was opened at the time 100, once there was room.
func again(t *testing.T, what string, c *chief.Chief) {
	t.Helper()
	epoch := c.Roster().Epoch
	silence(t, what, c, full(c.Roster().New, epoch), 101)
	hears(c, 101, 4)
	ticks(t, c, 101, 107)
	if c.Roster().Epoch != epoch+1 || !slices.Contains(c.Roster().L, 4) || c.Lost() {
		t.Errorf("P10.2: %s: opened anew: %s", what, told(c))
	}
}

// A chief that is Lost as a member is silent, and then for ever as the chest fails.
func TestLostAndFails(t *testing.T) {
	d := roll.New(1000)
	c := withNew(t, d, 3, 4)
	hears(c, 11, 4)
	ticks(t, c, 12, 12)
	tells(t, "3 is silent", c, "2 [3 4] 4 until 17 lost")
	fill(t, d, 0)
	silence(t, "full", c, full(4, 2), 13)
	fails(t, "full", c, d, state{roster: of(2, 4, 3, 4), until: 17})
}

// A chest that is full is no fault as long as nothing is to last.
func TestFullChestAlone(t *testing.T) {
	d := roll.New(1000)
	c := withNew(t, d, 1, 2)
	fill(t, d, 0)
	leased(t, "no room", c, 1, 3, of(2, 2, 1, 2), 9)
	hears(c, 12, 1)
	ticks(t, c, 12, 18)
	tells(t, "no room, and it is Changing", c, "2 [1 2] 2 until 18 changing")
	ticks(t, c, 19, 19)
	fails(t, "no room", c, d, state{roster: of(2, 2, 1, 2), until: 18})
}

// Where nobody is new, a WFull is nothing: it writes nothing, for which there may be no room.
func TestFullOfNobodyNew(t *testing.T) {
	d := roll.New(1000)
	c := open(t, d, of(1, 0, 1, 2), 0)
	was := rolls(d)
	for from := -1; from <= 6; from++ {
		silence(t, "nobody is new", c, full(from, 1), 1)
	}
	if rolls(d) != was {
		t.Errorf("P10.2: a WFull where nobody is new: the chest is turned")
	}
	fill(t, d, 0)
	for from := -1; from <= 6; from++ {
		silence(t, "nobody is new", c, full(from, 1), 1)
	}
	tells(t, "nobody is new", c, "1 [1 2] 0 until 0")
}

func TestNoChief(t *testing.T) {
	var none *chief.Chief
	for _, c := range []*chief.Chief{none, {}} {
		for _, now := range times() {
			for kind := -1; kind <= 13; kind++ {
				for from := -1; from <= 6; from++ {
					for _, to := range []int{0, from} {
						silence(t, "nil", c, api.Word{Kind: kind, From: from, To: to, Epoch: 1}, now)
						silence(t, "nil", c, api.Word{Kind: kind, From: from, To: to}, now)
					}
				}
			}
			if l := c.Tick(now); len(l) != 0 {
				t.Errorf("P10.2: nil: Tick tells %v", l)
			}
			tells(t, "nil", c, "0 [] 0 until 0 lost")
		}
	}
}
