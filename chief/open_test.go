package chief_test

import (
	"fmt"
	"math"
	"slices"
	"testing"

	"armarium/api"
	"armarium/chief"
	"armarium/roll"
)

func TestFirst(t *testing.T) {
	for _, l := range allOrders() {
		for k, epoch := range []int64{1, 2, 77, top - 1, top} {
			d := roll.New(1000)
			now := times()[k]
			want := state{roster: of(epoch, 0, l...), until: now}
			if c := open(t, d, of(epoch, 0, l...), now); told(c) != want.String() {
				t.Fatalf("P10.1: Open: %s, not %s", told(c), want)
			}
			// It lasts at once.
			want.until = now + 6
			if c := open(t, d.Tear(0), of(5, 0, 1), now); told(c) != want.String() {
				t.Fatalf("P10.1: it lasts: %s, not %s", told(c), want)
			}
		}
	}
}

func TestFirstThatMayNotBe(t *testing.T) {
	for _, b := range bads() {
		d := roll.New(1000)
		if c, err := chief.Open(d, b.r, 3); c != nil || err != api.ErrForm {
			t.Errorf("P10.1: Open, first: %s: %v, error %d", b.why, told(c), err)
		}
		// Nothing of it lasts.
		for k, d := range []*roll.Chest{d.Tear(0), d} {
			if c := open(t, d, of(4, 0, 3, 1), 7); told(c) != "4 [3 1] 0 until 7" {
				t.Errorf("P10.1, %d: Open behind a first that may not be, %s: %s", k, b.why, told(c))
			}
		}
	}
}

func TestUntilOfOpen(t *testing.T) {
	for _, now := range times() {
		d := roll.New(1000)
		if c := open(t, d, of(3, 0, 2, 4), now); told(c) != fmt.Sprint("3 [2 4] 0 until ", now) {
			t.Errorf("P10.1: Open at %d: %s", now, told(c))
		}
		// The greatest number, where the sum would be above it (P0.6).
		until := now + 6
		if until < now {
			until = math.MaxInt64
		}
		for range 3 {
			if c := open(t, d, of(3, 0, 2, 4), now); told(c) != fmt.Sprint("3 [2 4] 0 until ", until) {
				t.Errorf("P10.1: Open of one that lasted at %d: %s", now, told(c))
			}
		}
	}
	d := roll.New(1000)
	open(t, d, of(1, 0, 1), 0)
	for _, now := range []int64{math.MaxInt64 - 6, math.MaxInt64 - 5, math.MaxInt64} {
		if c := open(t, d, of(1, 0, 1), now); c.Until() != math.MaxInt64 {
			t.Errorf("P10.1: Open of one that lasted at %d: %s", now, told(c))
		}
	}
}

// One that lasts counts, whatever is handed in as first.
func TestAnotherFirst(t *testing.T) {
	firsts := bads()
	for _, l := range [][]int{{3, 1, 2}, {1}, {1, 2, 3, 4, 5}, {2, 1, 3}} {
		firsts = append(firsts, bad{"may be", of(1, 0, l...)}, bad{"of another epoch", of(900, 0, l...)})
	}
	d := roll.New(1000)
	withNew(t, d, 3, 1, 2)
	for k, chest := range []*roll.Chest{d, written(t, map[string]string{"LOG": journalOf(t, of(8, 0, 5, 4))})} {
		want := []string{"2 [3 1 2] 2 until 26", "8 [5 4] 0 until 26"}[k]
		for _, b := range firsts {
			was := rolls(chest)
			if c := open(t, chest, b.r, 20); told(c) != want {
				t.Fatalf("P10.1: Open, first: %s: %s, not %s", b.why, told(c), want)
			}
			if rolls(chest) != was {
				t.Fatalf("P10.1: Open, first: %s: what lasts is turned", b.why)
			}
		}
	}
}

// journalOf is the LOG of a chief that has been opened with r.
func journalOf(t *testing.T, r api.Roster) string {
	t.Helper()
	d := roll.New(1000)
	open(t, d, r, 0)
	s, _ := d.Read("LOG")
	return s
}

// Behind Open it is not Changing, nobody asks in, it isn't Lost, and all members were heard.
func TestOpenedAnew(t *testing.T) {
	d := roll.New(1000)
	c := open(t, d, of(1, 0, 1, 2), 0)
	hears(c, 0, 4)
	ticks(t, c, 1, 1)
	tells(t, "one asks in", c, "1 [1 2] 0 until 0 changing")
	c = open(t, d, of(1, 0, 1, 2), 5)
	tells(t, "opened anew while Changing", c, "1 [1 2] 0 until 11")
	ticks(t, c, 6, 14)
	tells(t, "nobody asks in", c, "1 [1 2] 0 until 11")
	ticks(t, c, 15, 15)
	tells(t, "heard at Open", c, "1 [1 2] 0 until 11 changing")
	d = roll.New(1000)
	c = open(t, d, of(1, 0, 4), 0)
	ticks(t, c, 10, 10)
	tells(t, "the only one is silent", c, "1 [4] 0 until 0 lost")
	c = open(t, d, of(1, 0, 4), 10)
	tells(t, "opened anew while Lost", c, "1 [4] 0 until 16")
	ticks(t, c, 11, 20)
	tells(t, "silent anew", c, "1 [4] 0 until 16 lost")
}

// With no room for all of it, at each byte of room.
func TestOpenWithoutRoom(t *testing.T) {
	for _, first := range []api.Roster{of(1, 0, 1), of(top, 0, 5, 4, 3, 2, 1)} {
		need := len(journalOf(t, first))
		for room := range need + 50 {
			d := roll.New(room)
			c, err := chief.Open(d, first, 0)
			if room >= need {
				if err != api.OK || told(c) != fmt.Sprintf("%d %v 0 until 0", first.Epoch, first.L) {
					t.Fatalf("P10.1: Open with room for %d: %s, error %d", room, told(c), err)
				}
				continue
			}
			if c != nil || err != api.ErrFull {
				t.Fatalf("P10.1: Open with room for %d: %s, error %d", room, told(c), err)
			}
			// The error that the chapter names first (P0.2).
			if c, err := chief.Open(d, of(0, 0, 1), 0); c != nil || err != api.ErrForm {
				t.Fatalf("P10.1: Open, of one that may not be, with room for %d: error %d", room, err)
			}
			if c, err := chief.Open(d.Tear(0), first, 0); c != nil || err != api.ErrFull {
				t.Fatalf("P10.1: Open behind a tear with room for %d: error %d", room, err)
			}
		}
	}
}

// Once there is room again, nothing stands in the way of what was not done.
func TestOpenOnceThereIsRoom(t *testing.T) {
	need := len(journalOf(t, of(1, 0, 1, 2)))
	for room := range need {
		d := roll.New(1000)
		fill(t, d, room)
		if c, err := chief.Open(d, of(1, 0, 1, 2), 0); c != nil || err != api.ErrFull {
			t.Fatalf("P10.1: Open with room for %d: error %d", room, err)
		}
		if err := d.Cut("FILL", 0); err != api.OK {
			t.Fatalf("Cut: error %d", err)
		}
		for k, d := range []*roll.Chest{d.Tear(0), d.Tear(room), d} {
			if c := open(t, d, of(7, 0, 4), 3); told(c) != "7 [4] 0 until 3" {
				t.Errorf("P10.1, %d: Open, once there is room, of a chest that had some for %d: %s", k, room, told(c))
			}
		}
	}
}

func TestOpenOfNoChest(t *testing.T) {
	for _, l := range allOrders() {
		if c, err := chief.Open(nil, of(1, 0, l...), 0); c != nil || err != api.ErrDown {
			t.Errorf("P10.1: Open of no chest: error %d", err)
		}
	}
	for _, b := range bads() {
		if c, err := chief.Open(nil, b.r, 0); c != nil || err != api.ErrForm {
			t.Errorf("P10.1: Open of no chest, first: %s: error %d", b.why, err)
		}
	}
}

// Other rolls of the chest are nobody's business.
func TestOtherRolls(t *testing.T) {
	d := written(t, map[string]string{"REQ": "some", "OLD": "older", "ZZZ": ""})
	c := open(t, d, of(1, 0, 1, 2), 0)
	hears(c, 0, 3)
	ticks(t, c, 1, 2)
	tells(t, "other rolls", c, "2 [1 2 3] 3 until 0")
	if c := open(t, d.Tear(0), of(1, 0, 1), 9); told(c) != "2 [1 2 3] 3 until 15" {
		t.Errorf("P10.1: Open with other rolls: %s", told(c))
	}
	if s, _ := d.Read("REQ"); s != "some" || !slices.Contains(d.Names(), "ZZZ") {
		t.Errorf("other rolls: %s", rolls(d))
	}
}
