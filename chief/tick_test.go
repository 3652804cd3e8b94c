package chief_test

import (
	"fmt"
	"math"
	"slices"
	"testing"

	"armarium/api"
	"armarium/roll"
)

// The epoch begins once now is above Until.
func TestTickAtUntil(t *testing.T) {
	for _, until := range []int64{7, 8, 9, 15, 100} {
		c := fresh(t, of(1, 0, 2, 1), 0)
		hears(c, until-6, 1, 2, 3)
		ticks(t, c, until-6, until)
		tells(t, "at Until", c, fmt.Sprintf("1 [2 1] 0 until %d changing", until))
		ticks(t, c, until+1, until+1)
		tells(t, "one behind it", c, fmt.Sprintf("2 [2 1 3] 3 until %d", until))
	}
	// Many times at Until, and far behind it.
	c := fresh(t, of(1, 0, 2, 1), 0)
	hears(c, 2, 1, 3)
	for range 20 {
		ticks(t, c, 8, 8)
	}
	tells(t, "at Until", c, "1 [2 1] 0 until 8 changing")
	ticks(t, c, 5000, 5000)
	tells(t, "far behind it", c, "2 [2 1 3] 3 until 8")
}

// Where no lease was granted: the time of Open, and 6 more if one lasted.
func TestTickWithoutLeases(t *testing.T) {
	d := roll.New(1000)
	c := open(t, d, of(1, 0, 2, 1), 30)
	hears(c, 30, 3)
	for range 3 {
		ticks(t, c, 30, 30)
		tells(t, "at the time of Open", c, "1 [2 1] 0 until 30 changing")
	}
	ticks(t, c, 31, 31)
	tells(t, "one behind it", c, "2 [2 1 3] 3 until 30")
	c = open(t, d, of(1, 0, 2, 1), 40)
	ticks(t, c, 50, 50)
	tells(t, "2 is silent", c, "2 [2 1 3] 3 until 46 changing")
	c = open(t, d, of(1, 0, 2, 1), 40)
	silence(t, "full", c, full(3, 2), 40)
	hears(c, 40, 5)
	ticks(t, c, 40, 46)
	tells(t, "5 asks in", c, "2 [2 1 3] 0 until 46 changing")
	ticks(t, c, 47, 47)
	tells(t, "5 is added", c, "3 [2 1 3 5] 5 until 46")
}

// goes is the chain once nobody but those that speak was heard for 9 of time, and for 10.
func goes(t *testing.T, what string, c *chiefOf, speak []int) {
	t.Helper()
	var silent []int
	for _, n := range c.r.L {
		if !slices.Contains(speak, n) {
			silent = append(silent, n)
		}
	}
	hears(c.Chief, c.now+5, speak...)
	c.until = max(c.until, c.Until())
	want := state{roster: c.r, until: c.until}
	ticks(t, c.Chief, c.now+8, c.now+9)
	tells(t, what+": silent for 9", c.Chief, want.String())
	ticks(t, c.Chief, c.now+10, c.now+10)
	if len(silent) == 0 {
		tells(t, what+": none is silent", c.Chief, want.String())
		return
	}
	rest := without(c.r.L, silent[0])
	if len(rest) == 0 || len(rest) == 1 && rest[0] == c.r.New {
		want.lost = true
		tells(t, what+": silent for 10", c.Chief, want.String())
		return
	}
	want.changing = true
	tells(t, what+": silent for 10", c.Chief, want.String())
	ticks(t, c.Chief, c.now+11, c.now+12)
	want.changing = false
	want.roster = of(c.r.Epoch+1, c.r.New, rest...)
	if c.r.New == silent[0] {
		want.roster.New = 0
	}
	tells(t, what+": the first silent one is dropped", c.Chief, want.String())
	if got := open(t, c.d.Tear(0), of(1, 0, 5), 0).Roster(); fmt.Sprint(got) != fmt.Sprint(want.roster) {
		t.Errorf("P10.1: %s: it lasts: %v, not %v", what, got, want.roster)
	}
}

// Each chain, with or without a new one, and each of its members silent or not.
func TestSilentMembers(t *testing.T) {
	for _, l := range allOrders() {
		for speak := range 1 << len(l) {
			var some []int
			for k, n := range l {
				if speak>>k&1 == 1 {
					some = append(some, n)
				}
			}
			d := roll.New(1000)
			r := of(1, 0, l...)
			goes(t, fmt.Sprint(l, some), &chiefOf{open(t, d, r, 3), d, r, 3, 3}, some)
			if len(l) == 1 {
				continue
			}
			d = roll.New(1000)
			goes(t, fmt.Sprint(l, some, ", the last one is new"), &chiefOf{withNew(t, d, l...), d, of(2, l[len(l)-1], l...), 2, 0}, some)
		}
	}
}

func TestSilentOneByOne(t *testing.T) {
	c := fresh(t, of(1, 0, 4, 2, 5, 1), 0)
	for k, want := range []string{"2 [2 5 1]", "3 [5 1]", "4 [1]"} {
		now := int64(k) * 11
		ticks(t, c, now+1, now+9)
		if c.Changing() {
			t.Fatalf("P10.2: all of an epoch that has just begun are heard: %s", told(c))
		}
		ticks(t, c, now+10, now+11)
		tells(t, "one by one", c, want+" 0 until 0")
	}
	ticks(t, c, 34, 42)
	tells(t, "the last one was heard", c, "4 [1] 0 until 0")
	ticks(t, c, 43, 99)
	tells(t, "the last one stays", c, "4 [1] 0 until 0 lost")
}

// The last time at which a member was heard counts, whoever else is heard.
func TestHeardLast(t *testing.T) {
	c := fresh(t, of(1, 0, 1, 2), 0)
	hears(c, 4, 1)
	hears(c, 6, 2, 1)
	hears(c, 8, 2)
	ticks(t, c, 9, 15)
	tells(t, "1 was heard at 6", c, "1 [1 2] 0 until 14")
	ticks(t, c, 16, 16)
	tells(t, "1 was heard at 6", c, "1 [1 2] 0 until 14 changing")
	ticks(t, c, 17, 17)
	tells(t, "1 is dropped", c, "2 [2] 0 until 14")
}

// What a Tick has begun stays, whoever speaks or asks in meanwhile.
func TestChangingStays(t *testing.T) {
	c := fresh(t, of(1, 0, 1, 2, 3), 0)
	hears(c, 9, 2, 3)
	ticks(t, c, 10, 10)
	tells(t, "1 is silent", c, "1 [1 2 3] 0 until 15 changing")
	hears(c, 11, 1, 2, 3, 4)
	ticks(t, c, 11, 16)
	tells(t, "1 is dropped", c, "2 [2 3] 0 until 15")
	c = fresh(t, of(1, 0, 1, 2), 0)
	hears(c, 4, 1, 2, 3)
	ticks(t, c, 5, 5)
	hears(c, 6, 4, 5)
	ticks(t, c, 6, 10)
	// By now 1 and 2 are silent.
	ticks(t, c, 40, 40)
	tells(t, "3 is added", c, "2 [1 2 3] 3 until 10")
	ticks(t, c, 49, 49)
	tells(t, "all were heard when the epoch began", c, "2 [1 2 3] 3 until 10")
	ticks(t, c, 50, 50)
	tells(t, "1 is silent", c, "2 [1 2 3] 3 until 10 changing")
}

func TestSilentAndAsksIn(t *testing.T) {
	c := fresh(t, of(1, 0, 1, 2, 3), 0)
	hears(c, 9, 1, 3, 5)
	ticks(t, c, 10, 16)
	tells(t, "2 is dropped first", c, "2 [1 3] 0 until 15")
	ticks(t, c, 17, 18)
	tells(t, "nobody asks in any more", c, "2 [1 3] 0 until 15")
	hears(c, 19, 2, 1)
	ticks(t, c, 19, 26)
	tells(t, "it asks in anew", c, "3 [1 3 2] 2 until 25")
}

// The only one that has all is silent: nobody is dropped, or added, until it speaks.
func TestLost(t *testing.T) {
	c := withNew(t, roll.New(1000), 3, 4)
	hears(c, 8, 4)
	ticks(t, c, 9, 11)
	tells(t, "3 was heard at 2", c, "2 [3 4] 4 until 14")
	ticks(t, c, 12, 12)
	tells(t, "3 is silent", c, "2 [3 4] 4 until 14 lost")
	leased(t, "Lost", c, 4, 13, of(2, 4, 3, 4), 19)
	hears(c, 13, 5)
	ticks(t, c, 13, 40)
	tells(t, "both are silent", c, "2 [3 4] 4 until 19 lost")
	leased(t, "Lost", c, 3, 41, of(2, 4, 3, 4), 47)
	tells(t, "no Tick yet", c, "2 [3 4] 4 until 47 lost")
	ticks(t, c, 41, 41)
	tells(t, "4 alone is silent", c, "2 [3 4] 4 until 47 changing")
	ticks(t, c, 42, 48)
	tells(t, "4 is dropped", c, "3 [3] 0 until 47")
}

func TestLostAlone(t *testing.T) {
	c := fresh(t, of(1, 0, 2), 0)
	hears(c, 1, 2)
	ticks(t, c, 2, 10)
	hears(c, 10, 4)
	ticks(t, c, 11, 30)
	tells(t, "nobody is added meanwhile", c, "1 [2] 0 until 7 lost")
	hears(c, 31, 2)
	tells(t, "no Tick yet", c, "1 [2] 0 until 37 lost")
	ticks(t, c, 31, 31)
	tells(t, "it speaks", c, "1 [2] 0 until 37 changing")
	ticks(t, c, 32, 38)
	tells(t, "4 is added", c, "2 [2 4] 4 until 37")
	c = fresh(t, of(1, 0, 2), 0)
	ticks(t, c, 10, 10)
	hears(c, 11, 2)
	ticks(t, c, 11, 20)
	tells(t, "it speaks, and nobody asks in", c, "1 [2] 0 until 17")
	ticks(t, c, 21, 21)
	tells(t, "it is silent again", c, "1 [2] 0 until 17 lost")
}

// While it is Lost the new one may learn all: then the one that is silent is dropped.
func TestLostUntilFull(t *testing.T) {
	c := withNew(t, roll.New(1000), 3, 4)
	hears(c, 11, 4)
	ticks(t, c, 12, 12)
	tells(t, "3 is silent", c, "2 [3 4] 4 until 17 lost")
	silence(t, "full", c, full(4, 2), 13)
	tells(t, "no Tick yet", c, "2 [3 4] 0 until 17 lost")
	ticks(t, c, 13, 13)
	tells(t, "3 may be dropped", c, "2 [3 4] 0 until 17 changing")
	ticks(t, c, 18, 18)
	tells(t, "3 is dropped", c, "3 [4] 0 until 17")
}

// One that may not be added waits until it may.
func TestMayNotBeAdded(t *testing.T) {
	c := withNew(t, roll.New(1000), 1, 2)
	hears(c, 3, 5)
	ticks(t, c, 3, 8)
	tells(t, "New is there", c, "2 [1 2] 2 until 0")
	silence(t, "full", c, full(2, 2), 9)
	ticks(t, c, 9, 10)
	tells(t, "New is there no more", c, "3 [1 2 5] 5 until 0")

	c = fresh(t, of(1, 0, 1, 2, 3, 4, 5), 0)
	for now := int64(1); now < 30; now++ {
		hears(c, now, 1, 2, 3, 4, 5, 6, 0, -1)
		ticks(t, c, now, now)
	}
	tells(t, "five are there", c, "1 [1 2 3 4 5] 0 until 35")
}

func TestLastEpoch(t *testing.T) {
	d := roll.New(1000)
	c := open(t, d, of(top, 0, 1, 2), 0)
	hears(c, 1, 3)
	was := rolls(d)
	ticks(t, c, 1, 9)
	tells(t, "none is added", c, "1099511627776 [1 2] 0 until 0")
	ticks(t, c, 10, 20)
	tells(t, "none is dropped", c, "1099511627776 [1 2] 0 until 0 lost")
	hears(c, 21, 1, 2)
	ticks(t, c, 21, 21)
	tells(t, "none is silent", c, "1099511627776 [1 2] 0 until 27")
	if rolls(d) != was {
		t.Errorf("P10.2: the chest is turned: %s", rolls(d))
	}
	c = fresh(t, of(top-1, 0, 1, 2), 0)
	hears(c, 1, 3)
	ticks(t, c, 1, 2)
	tells(t, "the last one that may be", c, "1099511627776 [1 2 3] 3 until 0")
	silence(t, "full", c, full(3, top), 3)
	tells(t, "the last one that may be", c, "1099511627776 [1 2 3] 0 until 0")
	c = fresh(t, of(top-1, 0, 1, 2), 0)
	ticks(t, c, 10, 11)
	tells(t, "the last one that may be", c, "1099511627776 [2] 0 until 0")
}

// No difference wraps (P0.6).
func TestTickAtAnyTime(t *testing.T) {
	for _, at := range times() {
		for _, now := range append(times(), at-10, at-9, at-1, at+1, at+8, at+9, at+10, at+11) {
			d := roll.New(1000)
			open(t, d, of(1, 0, 3, 1), 0)
			c := open(t, d, of(1, 0, 3, 1), at)
			c.Tick(now)
			// As whole numbers reckon, however great.
			silent := now > at && uint64(now)-uint64(at) > 9
			if c.Changing() != silent || c.Lost() {
				t.Errorf("P10.2: Tick at %d, heard at %d: %s", now, at, told(c))
			}
			if l := c.Tick(now); len(l) != 0 {
				t.Errorf("P10.2: Tick tells %v", l)
			}
			if begun := silent && now > c.Until(); (c.Roster().Epoch == 2) != begun {
				t.Errorf("P10.2: two Ticks at %d, heard at %d: %s", now, at, told(c))
			}
		}
	}
	c := fresh(t, of(1, 0, 2), math.MaxInt64)
	c.Tick(math.MinInt64 + 20)
	tells(t, "time that falls", c, fmt.Sprint("1 [2] 0 until ", math.MaxInt64))
}

// A Tick that finds nothing writes nothing.
func TestTickOfNothing(t *testing.T) {
	d := roll.New(1000)
	c := open(t, d, of(1, 0, 1, 2), 0)
	was := rolls(d)
	for now := range int64(200) {
		hears(c, now, 1, 2)
		ticks(t, c, now, now)
		if rolls(d) != was || c.Until() != now+6 || c.Changing() || c.Lost() {
			t.Fatalf("P10.2: Tick of nothing: %s", told(c))
		}
	}
}

// A chest of little room has room for any number of epochs.
func TestManyEpochs(t *testing.T) {
	d := roll.New(700)
	c := open(t, d, of(1, 0, 1, 2, 3, 4), 0)
	now := int64(0)
	for epoch := int64(2); epoch < 4000; epoch += 2 {
		hears(c, now, 5)
		ticks(t, c, now, now+1)
		silence(t, "full", c, full(5, epoch), now)
		now += 10
		hears(c, now, 1, 2, 3, 4)
		ticks(t, c, now+1, now+8)
		now += 10
		if got, want := c.Roster(), of(epoch+1, 0, 1, 2, 3, 4); fmt.Sprint(got) != fmt.Sprint(want) {
			t.Fatalf("P10.2: many epochs: %s, not %v", told(c), want)
		}
	}
	if c := open(t, d.Tear(0), api.Roster{}, now); c.Roster().Epoch != 3999 {
		t.Errorf("P10.1: many epochs: %s", told(c))
	}
}
