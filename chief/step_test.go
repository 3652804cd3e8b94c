package chief_test

import (
	"fmt"
	"math"
	"slices"
	"testing"

	"armarium/api"
	"armarium/roll"
)

func TestLeaseOfEach(t *testing.T) {
	for _, l := range allOrders() {
		c := fresh(t, of(7, 0, l...), 2)
		for k, n := range l {
			now := int64(k + 3)
			leased(t, "a member", c, n, now, of(7, 0, l...), now+6)
			if c.Until() != now+6 {
				t.Errorf("P10.2: Until %d behind a WBeat at %d", c.Until(), now)
			}
		}
		if len(l) < 2 {
			continue
		}
		last := l[len(l)-1]
		c = withNew(t, roll.New(1000), l...)
		for _, n := range l {
			leased(t, "a member beside a new one, or it", c, n, 4, of(2, last, l...), 10)
		}
	}
}

func TestUntil(t *testing.T) {
	d := roll.New(1000)
	open(t, d, of(1, 0, 1, 2), 0)
	c := open(t, d, api.Roster{}, 20)
	for _, x := range []struct {
		now   int64
		until int64
	}{{20, 26}, {21, 27}, {21, 27}, {19, 27}, {0, 27}, {20, 27}, {22, 28}, {28, 34}, {29, 35}, {-100, 35}, {100, 106}, {105, 111}, {106, 112}, {111, 117}, {118, 124}} {
		leased(t, "one of many", c, 2, x.now, of(1, 0, 1, 2), x.now+6)
		if c.Until() != x.until {
			t.Errorf("P10.2: Until is %d behind a WBeat at %d, not %d", c.Until(), x.now, x.until)
		}
	}
	// Ticks, and words without a lease, leave Until as it is.
	hears(c, 130, 3, 4)
	silence(t, "full", c, full(1, 1), 130)
	ticks(t, c, 119, 120)
	tells(t, "no lease", c, "1 [1 2] 0 until 124 changing")
}

// The greatest number is the end of all time: no sum wraps (P0.6).
func TestLeasesAtTheEndOfTime(t *testing.T) {
	for _, now := range []int64{math.MaxInt64 - 7, math.MaxInt64 - 6, math.MaxInt64 - 5, math.MaxInt64 - 1, math.MaxInt64} {
		c := fresh(t, of(1, 0, 4, 3), 0)
		until := int64(math.MaxInt64)
		if now < math.MaxInt64-6 {
			until = now + 6
		}
		leased(t, "late", c, 4, now, of(1, 0, 4, 3), until)
		if c.Until() != until {
			t.Errorf("P10.2: Until is %d behind a WBeat at %d", c.Until(), now)
		}
		// 3 is silent, and goes once now is above Until, which it never is above the greatest number.
		c.Tick(math.MaxInt64)
		c.Tick(math.MaxInt64)
		if c.Changing() != (until == math.MaxInt64) || (c.Roster().Epoch == 2) != (until < math.MaxInt64) {
			t.Errorf("P10.2: a lease to %d, at %d: %s", until, int64(math.MaxInt64), told(c))
		}
	}
	c := fresh(t, of(1, 0, 4, 3), math.MinInt64)
	leased(t, "early", c, 3, math.MinInt64, of(1, 0, 4, 3), math.MinInt64+6)
	tells(t, "early", c, fmt.Sprint("1 [4 3] 0 until ", math.MinInt64+6))
}

// Nothing else of a WBeat counts.
func TestOtherPartsOfABeat(t *testing.T) {
	for _, epoch := range []int64{0, 1, 2, -1, math.MaxInt64} {
		c := fresh(t, of(1, 0, 1, 2), 0)
		w := api.Word{
			Kind: api.WBeat, From: 2, Epoch: epoch, Seq: epoch + 1, Req: -epoch, Until: epoch, Res: api.Result{Err: -3, Ver: 9},
			Roster: of(9, 2, 2, 3), Deeds: make([]api.Deed, 1000), State: api.State{Seq: -1, Memos: make([]api.Memo, 3)},
		}
		if got, want := fmt.Sprint(c.Step(w, 4)), fmt.Sprint([]api.Word{{Kind: 2, To: 2, Roster: of(1, 0, 1, 2), Until: 10}}); got != want {
			t.Errorf("P10.2: a WBeat with more: %s, not %s", got, want)
		}
		w.From = 5
		silence(t, "asks in", c, w, 4)
		ticks(t, c, 5, 11)
		tells(t, "a WBeat with more", c, "2 [1 2 5] 5 until 10")
	}
}

// heedless tells a chief of 1, 2 and 3, of which 3 is new, words that are nothing to it, and asks that it stays as it
// was: nobody is heard, asks in, or has learnt all.
func heedless(t *testing.T, what string, words []api.Word) {
	t.Helper()
	d := roll.New(1000)
	c := withNew(t, d, 1, 2, 3)
	hears(c, 2, 4)
	was := rolls(d)
	for _, w := range words {
		silence(t, what, c, w, 5)
	}
	tells(t, what, c, "2 [1 2 3] 3 until 0")
	ticks(t, c, 5, 11)
	if rolls(d) != was {
		t.Errorf("P10.2: %s: the chest is turned", what)
	}
	tells(t, what, c, "2 [1 2 3] 3 until 0")
	ticks(t, c, 12, 12)
	tells(t, what+": nobody was heard", c, "2 [1 2 3] 3 until 0 changing")
	ticks(t, c, 13, 13)
	tells(t, what+": 1 is dropped", c, "3 [2 3] 3 until 0")

	c = withNew(t, roll.New(1000), 1, 2, 3)
	hears(c, 2, 4)
	for _, w := range words {
		silence(t, what, c, w, 2)
	}
	silence(t, "full", c, full(3, 2), 3)
	ticks(t, c, 3, 4)
	tells(t, what+": the one that asked in", c, "3 [1 2 3 4] 4 until 0")
}

func TestWordsToOthers(t *testing.T) {
	for kind := -1; kind <= 13; kind++ {
		var words []api.Word
		for _, to := range []int{1, 2, 3, 4, 5, 6, -1, -6, 256, 1 << 32, math.MinInt, math.MaxInt} {
			for from := -1; from <= 6; from++ {
				words = append(words, api.Word{Kind: kind, From: from, To: to, Epoch: 2})
			}
		}
		heedless(t, fmt.Sprint("words to another, of the kind ", kind), words)
	}
}

func TestWordsFromOthers(t *testing.T) {
	for kind := -1; kind <= 13; kind++ {
		var words []api.Word
		for _, from := range []int{0, 6, 7, -1, -2, -3, -5, 256 + 3, 1<<32 + 1, 1<<32 + 5, math.MinInt, math.MinInt + 2, math.MaxInt} {
			words = append(words, api.Word{Kind: kind, From: from, Epoch: 2})
		}
		heedless(t, fmt.Sprint("words from nobody, of the kind ", kind), words)
	}
}

func TestWordsOfOtherKinds(t *testing.T) {
	for _, kind := range []int{math.MinInt, -11, -1, 0, 2, 3, 4, 5, 6, 7, 8, 9, 10, 12, 13, 256 + 1, 256 + 11, 1<<32 + 1, 1<<32 + 11, math.MaxInt} {
		var words []api.Word
		for from := 1; from <= 5; from++ {
			for _, epoch := range []int64{0, 1, 2, 3} {
				words = append(words, api.Word{Kind: kind, From: from, Epoch: epoch, Until: 99, Roster: of(3, 0, 5), Req: 1})
			}
		}
		heedless(t, fmt.Sprint("words of the kind ", kind), words)
	}
}

// A WFull that is not New's, or of another Epoch. (It isn't a WBeat, either.)
func TestOtherFulls(t *testing.T) {
	var words []api.Word
	for _, epoch := range []int64{0, 1, 3, -2, 2 + 256, 2 + 1<<32, top, math.MaxInt64, math.MinInt64, math.MinInt64 + 2} {
		words = append(words, full(3, epoch))
	}
	for _, from := range []int{1, 2, 4, 5, 0, 6, -3} {
		words = append(words, full(from, 2), full(from, 1))
	}
	heedless(t, "WFull of others", words)
}

func TestFull(t *testing.T) {
	for _, l := range allOrders() {
		if len(l) < 2 {
			continue
		}
		d := roll.New(1000)
		c := withNew(t, d, l...)
		want := state{roster: of(2, 0, l...)}
		w := full(l[len(l)-1], 2)
		// No more of it counts.
		w.Seq, w.Req, w.Until, w.Roster, w.Res.Err = 7, -1, 99, of(9, 0, 1), api.ErrLost
		silence(t, "full", c, w, 4)
		tells(t, "full", c, want.String())
		was := rolls(d)
		silence(t, "full again", c, w, 5)
		tells(t, "full again", c, want.String())
		if rolls(d) != was {
			t.Errorf("P10.2: a WFull when nobody is new: the chest is turned")
		}
		want.until = 26
		for k, d := range []*roll.Chest{d.Tear(0), d.Tear(3), d} {
			if c := open(t, d, of(1, 0, 1), 20); told(c) != want.String() {
				t.Errorf("P10.1, %d: what is told of New lasts: %s, not %s", k, told(c), want)
			}
		}
	}
}

// A WFull is no WBeat, and leaves all but New as it was.
func TestFullIsNoBeat(t *testing.T) {
	c := withNew(t, roll.New(1000), 1, 2)
	hears(c, 3, 1, 4)
	silence(t, "full", c, full(2, 2), 11)
	tells(t, "full", c, "2 [1 2] 0 until 9")
	ticks(t, c, 11, 11)
	tells(t, "one asked in ahead of a WFull", c, "2 [1 2] 0 until 9 changing")
	c = withNew(t, roll.New(1000), 1, 2)
	silence(t, "full", c, full(2, 2), 11)
	hears(c, 11, 1)
	ticks(t, c, 11, 12)
	tells(t, "2 was heard at 2", c, "2 [1 2] 0 until 17 changing")
	ticks(t, c, 13, 18)
	tells(t, "2 was heard at 2", c, "3 [1] 0 until 17")
}

func TestFullWhileChanging(t *testing.T) {
	d := roll.New(1000)
	c := withNew(t, d, 1, 2, 3)
	hears(c, 3, 1)
	hears(c, 11, 2, 3)
	ticks(t, c, 12, 13)
	tells(t, "1 is silent", c, "2 [1 2 3] 3 until 17 changing")
	was := rolls(d)
	for epoch := range int64(5) {
		silence(t, "full while it is Changing", c, full(3, epoch), 13)
	}
	tells(t, "full while it is Changing", c, "2 [1 2 3] 3 until 17 changing")
	if rolls(d) != was {
		t.Errorf("P10.2: full while it is Changing: the chest is turned")
	}
	ticks(t, c, 14, 18)
	tells(t, "1 is dropped", c, "3 [2 3] 3 until 17")
	silence(t, "full of another Epoch", c, full(3, 2), 18)
	tells(t, "full of another Epoch", c, "3 [2 3] 3 until 17")
	silence(t, "full", c, full(3, 3), 18)
	tells(t, "full", c, "3 [2 3] 0 until 17")
}

// While it is Changing nobody has a lease.
func TestBeatsWhileChanging(t *testing.T) {
	c := fresh(t, of(1, 0, 1, 2, 3), 0)
	leased(t, "ahead of it", c, 3, 4, of(1, 0, 1, 2, 3), 10)
	hears(c, 4, 5)
	ticks(t, c, 4, 4)
	tells(t, "one asks in", c, "1 [1 2 3] 0 until 10 changing")
	for now := int64(4); now <= 10; now++ {
		for from := 1; from <= 5; from++ {
			silence(t, "while it is Changing", c, beat(from), now)
		}
		ticks(t, c, now, now)
		tells(t, "while it is Changing", c, "1 [1 2 3] 0 until 10 changing")
	}
	silence(t, "ahead of the Tick", c, beat(1), 11)
	ticks(t, c, 11, 11)
	tells(t, "the epoch begins", c, "2 [1 2 3 5] 5 until 10")
	for _, n := range []int{1, 2, 3, 5} {
		leased(t, "behind it", c, n, 11, of(2, 5, 1, 2, 3, 5), 17)
	}
	silence(t, "full", c, full(5, 2), 12)
	ticks(t, c, 12, 12)
	tells(t, "nobody asks in any more", c, "2 [1 2 3 5] 0 until 17")
}

// asked is which nodes are there, once those have asked in one behind the other.
func asked(t *testing.T, l []int, from ...int) []int {
	t.Helper()
	c := fresh(t, of(1, 0, l...), 0)
	for _, n := range from {
		silence(t, "asks in", c, beat(n), 1)
	}
	tells(t, "no Tick yet", c, state{roster: of(1, 0, l...)}.String())
	ticks(t, c, 2, 2)
	if !c.Changing() || !slices.Equal(c.Roster().L, l) {
		t.Fatalf("P10.2: %v ask in: %s", from, told(c))
	}
	ticks(t, c, 3, 3)
	return c.Roster().L
}

func TestAsksIn(t *testing.T) {
	for _, l := range slices.Concat(orders(1), orders(2), orders(3), orders(4)) {
		others := []int{1, 2, 3, 4, 5}
		for _, n := range l {
			others = without(others, n)
		}
		for _, a := range others {
			if got := asked(t, l, a); !slices.Equal(got, slices.Concat(l, []int{a})) {
				t.Errorf("P10.2: %d asks in to %v: %v", a, l, got)
			}
			for _, b := range others {
				if got := asked(t, l, a, b); !slices.Equal(got, slices.Concat(l, []int{b})) {
					t.Errorf("P10.2: %d and %d ask in to %v: %v", a, b, l, got)
				}
				if got := asked(t, l, a, b, a); !slices.Equal(got, slices.Concat(l, []int{a})) {
					t.Errorf("P10.2: %d, %d and %d ask in to %v: %v", a, b, a, l, got)
				}
			}
		}
	}
}

// A member's WBeat does not take away who asks in; an epoch's begin does.
func TestAsksInUntilAnEpochBegins(t *testing.T) {
	c := fresh(t, of(1, 0, 1, 2), 0)
	hears(c, 1, 5, 3, 1, 2)
	ticks(t, c, 2, 2)
	tells(t, "3 asks in", c, "1 [1 2] 0 until 7 changing")
	hears(c, 3, 4, 5)
	ticks(t, c, 3, 8)
	tells(t, "3 is added", c, "2 [1 2 3] 3 until 7")
	silence(t, "full", c, full(3, 2), 8)
	ticks(t, c, 9, 10)
	tells(t, "those that asked in ahead of it", c, "2 [1 2 3] 0 until 7")
	hears(c, 10, 5)
	ticks(t, c, 11, 12)
	tells(t, "one that asks in behind it", c, "3 [1 2 3 5] 5 until 7")
}
