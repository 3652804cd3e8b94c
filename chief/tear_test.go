package chief_test

import (
	"fmt"
	"strings"
	"testing"

	"armarium/api"
	"armarium/chief"
	"armarium/roll"
)

// call is one of a chief's.
type call struct {
	what string
	do   func(c *chief.Chief)
}

func tick(now int64) call {
	return call{fmt.Sprint("Tick at ", now), func(c *chief.Chief) { c.Tick(now) }}
}

func step(w api.Word, now int64) call {
	return call{fmt.Sprintf("Step of %d from %d at %d", w.Kind, w.From, now), func(c *chief.Chief) { c.Step(w, now) }}
}

// story is of a chain of 1 and 2, to which 3 is added, which learns all; then 1 is dropped, and is added again, and so
// on: so long that what lasts is laid anew.
func story() []call {
	var l []call
	chain, other := []int{1, 2}, 3
	for k := range int64(8) {
		now, epoch := 20*k, 2*k+2
		chain = append(chain, other)
		l = append(l, step(beat(other), now), step(beat(chain[0]), now), tick(now), tick(now+6), tick(now+7), step(full(other, epoch), now+8))
		for _, n := range chain[1:] {
			l = append(l, step(beat(n), now+12))
		}
		l = append(l, tick(now+17), tick(now+18), tick(now+19))
		chain, other = chain[1:], chain[0]
	}
	return l
}

// turns is a call of story that turns what lasts: which one, and the LOG and the roster ahead of it and behind it.
type turns struct {
	k          int
	log, after string
	was, is    string
}

// writing are the calls of story that turn what lasts.
func writing(t *testing.T) []turns {
	t.Helper()
	d := roll.New(1000)
	c := open(t, d, of(1, 0, 1, 2), 0)
	var l []turns
	laid := 0
	for k, x := range story() {
		log, _ := d.Read("LOG")
		was := outline(c)
		x.do(c)
		after, _ := d.Read("LOG")
		if log == after {
			if outline(c) != was {
				t.Fatalf("P10.1: %s: it does not last: %s", x.what, told(c))
			}
			continue
		}
		if !strings.HasPrefix(after, log) {
			laid++
		}
		l = append(l, turns{k, log, after, was, outline(c)})
	}
	if len(l) != 24 || laid == 0 || laid > 4 || outline(c) != "{17 [3 1] 0}" {
		t.Fatalf("P10.2: %d calls of story turn what lasts, %d by a new LOG; %s", len(l), laid, told(c))
	}
	return l
}

// outline is what lasts of the chief: its roster.
func outline(c *chief.Chief) string { return fmt.Sprint(c.Roster()) }

// lasts asks that a chief that is opened now has that roster, and tells what one tells at first.
func lasts(t *testing.T, what string, d *roll.Chest, want string) *chief.Chief {
	t.Helper()
	c, err := chief.Open(d, of(60, 0, 4), 100)
	if err != api.OK || outline(c) != want {
		t.Fatalf("P10.1: %s: Open: %s, error %d, not %s", what, told(c), err, want)
	}
	if c.Until() != 106 || c.Changing() || c.Lost() {
		t.Fatalf("P10.1: %s: Open: %s", what, told(c))
	}
	return c
}

func TestTearBetween(t *testing.T) {
	d := roll.New(1000)
	c := open(t, d, of(1, 0, 1, 2), 0)
	for k, x := range append([]call{{"Open", func(c *chief.Chief) {}}}, story()...) {
		x.do(c)
		for _, n := range []int{-1, 0, 1, 2, 7, 50, 1000} {
			what := fmt.Sprintf("behind the call %d, %s, torn by %d", k, x.what, n)
			lasts(t, what, d.Tear(n), outline(c))
			lasts(t, what+" twice", d.Tear(n).Tear(0), outline(c))
		}
	}
}

// falls are the chests that a fall can leave within a call that turns what the one LOG has to what the other has.
func falls(t *testing.T, before, after string) []*roll.Chest {
	t.Helper()
	var l []*roll.Chest
	text, name := after, "NEW"
	if strings.HasPrefix(after, before) {
		text, name = after[len(before):], "LOG"
	}
	for k := range len(text) {
		d := written(t, map[string]string{"LOG": before})
		if err := d.Write(name, text[:k]); err != api.OK {
			t.Fatalf("Write: error %d", err)
		}
		l = append(l, d, d.Tear(k), d.Tear(0))
	}
	// All of it is there, and pressed, but it has not been called LOG.
	if name == "NEW" {
		l = append(l, written(t, map[string]string{"LOG": before, "NEW": after}))
	}
	return l
}

// A fall within a call: what was ahead of it lasts, and what comes then comes as ever.
func TestTearWithin(t *testing.T) {
	for _, x := range writing(t) {
		for k, fall := range falls(t, x.log, x.after) {
			what := fmt.Sprintf("within %s, the fall %d", story()[x.k].what, k)
			y := lasts(t, what, fall, x.was)
			hears(y, 107, 5, y.Roster().L[0])
			silence(t, what, y, full(y.Roster().New, y.Roster().Epoch), 107)
			ticks(t, y, 108, 114)
			lasts(t, what+", and then more", fall, outline(y))
			if outline(y) == x.was {
				t.Errorf("P10.1: %s: nothing comes then: %s", what, told(y))
			}
		}
	}
}

// A fall within the first Open, once the journal is there: nothing lasts.
func TestTearWithinOpen(t *testing.T) {
	log := journalOf(t, of(1, 0, 1, 2))
	leaves, _ := leavesOf(t, log)
	begin := len(log)
	for k := range log {
		if l, ok := leavesOf(t, log[:k]); ok && len(l) == 1 {
			begin = k
			break
		}
	}
	if len(leaves) != 2 || begin == len(log) {
		t.Fatalf("the first LOG: %q", leaves)
	}
	for k, d := range falls(t, log[:begin], log) {
		if c := open(t, d, of(8, 0, 2), 5); told(c) != "8 [2] 0 until 5" {
			t.Errorf("P10.1: Open behind a fall within Open, %d: %s", k, told(c))
		}
		lasts(t, "behind a fall within Open", d.Tear(0), "{8 [2] 0}")
	}
}
