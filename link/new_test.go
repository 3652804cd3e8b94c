package link_test

import (
	"fmt"
	"math"
	"testing"

	"armarium/api"
	"armarium/link"
	"armarium/roll"
	"armarium/shelf"
)

// times are those at which calls are made that ought to do nothing.
func times() []int64 {
	return []int64{0, 1, -1, until, 1000, top, math.MaxInt64, math.MinInt64}
}

func TestNew(t *testing.T) {
	for id := 1; id <= 5; id++ {
		for _, n := range [][2]int{{0, 0}, {3, 0}, {0, 2}, {7, 60}} {
			r := made(t, id, n[0], n[1])
			if err := r.Shelf().Enter(3); err != api.OK {
				t.Fatalf("Enter: error %d", err)
			}
			was := r.known()
			what := fmt.Sprint("New of ", id, " with ", n)
			if was.Roster.Epoch != 0 || len(was.Roster.L) != 0 || was.Roster.New != 0 || was.Until != 0 {
				t.Errorf("P13.1: %s: %v", what, was)
			}
			for _, now := range times() {
				if r.Active(now) || r.Ready("", now) || r.Ready("k1", now) || r.Ready("none", now) {
					t.Errorf("P13.1: %s: Active or Ready at %d", what, now)
				}
				says(t, what+": Tick", r.Tick(now), api.Word{Kind: api.WBeat, From: id})
				says(t, what+": Write", r.Write(nth(1), now))
				says(t, what+": Ask", r.Ask(req(id, 1), now))
				says(t, what+": Ask", r.Ask(77, now))
			}
			knows(t, what, r, was)
			has(t, what, r)
		}
	}
}

func TestShelfIsTheOneHandedIn(t *testing.T) {
	c := roll.New(1000)
	s, _ := shelf.Open(c)
	l := link.New(2, s)
	if l.Shelf() != s {
		t.Error("P13.1: Shelf is another one")
	}
	if s.Add(nth(1)) != api.OK || len(l.Shelf().Pend()) != 1 {
		t.Error("P13.1: Shelf is another one")
	}
	placed(replica{l, 2, c}, 0, 2)
	if l.Shelf() != s || s.Book().Seq != 1 {
		t.Error("P13.1: Shelf is another one behind a lease")
	}
}

// every has each call that there is be made, with all sorts of arguments, and answers what is told of a few of them.
func every(l *link.Link) string {
	out := ""
	for _, now := range times() {
		for kind := -1; kind <= 13; kind++ {
			for from := -1; from <= 6; from++ {
				for to := -1; to <= 6; to++ {
					w := api.Word{Kind: kind, From: from, To: to, Req: req(3, 1), Deeds: deeds(0, 1), Roster: of(1, 0, 1, 2, 3)}
					out += short(l.Step(w, now))
				}
			}
		}
		for _, n := range []int64{0, 1, 77, -1, base, req(3, 1), top + 1, math.MaxInt64, math.MinInt64} {
			out += short(l.Ask(n, now))
		}
		for _, key := range []string{"", "k1", "none", "No Key", string(make([]byte, 1000))} {
			out += fmt.Sprint(l.Ready(key, now))
		}
		out += short(l.Write(nth(1), now)) + short(l.Write(api.Deed{}, now)) + short(l.Tick(now))
		out += fmt.Sprint(l.Roster(), l.Until(), l.Active(now), short(l.Done()))
	}
	return out
}

func TestNilLink(t *testing.T) {
	var l *link.Link
	every(l)
	for _, now := range times() {
		for _, w := range []api.Word{{Kind: api.WLease, To: 1, Roster: of(1, 0, 1)}, {Kind: api.WDone, From: 1, To: 2, Req: req(2, 1)}, {}} {
			if l.Step(w, now) != nil {
				t.Error("P13.2: Step of a nil Link")
			}
		}
		if l.Tick(now) != nil || l.Write(nth(1), now) != nil || l.Ask(1, now) != nil || l.Ready("", now) || l.Ready("k", now) || l.Active(now) {
			t.Error("P13.2: a nil Link")
		}
	}
	r := l.Roster()
	if r.Epoch != 0 || r.L != nil || r.New != 0 || l.Until() != 0 || l.Done() != nil || l.Shelf() != nil {
		t.Error("P13.2: a nil Link")
	}
}

func TestNilShelf(t *testing.T) {
	for id := 1; id <= 5; id++ {
		l := link.New(id, nil)
		if l == nil || l.Shelf() != nil || l.Roster().Epoch != 0 || l.Until() != 0 || len(l.Done()) != 0 {
			t.Fatal("P13.1: New with a nil shelf")
		}
		for _, now := range times() {
			if l.Active(now) || l.Ready("", now) || len(l.Tick(now)) != 0 || len(l.Write(nth(1), now)) != 0 || len(l.Ask(1, now)) != 0 {
				t.Error("P13.2: a nil shelf")
			}
		}
		// Whatever it makes of a lease, it is Down.
		for _, x := range []api.Roster{of(1, 0, id), of(2, 0, id, 6-id%5), of(3, id, 6-id%5, id)} {
			if len(x.L) == 2 && x.L[0] == x.L[1] {
				continue
			}
			if got := l.Step(api.Word{Kind: api.WLease, To: id, Roster: x, Until: 9}, 1); len(got) != 0 {
				t.Errorf("P13.1: a nil shelf: %s", short(got))
			}
			if l.Active(1) || l.Ready("", 1) || len(l.Tick(1)) != 0 {
				t.Error("P13.1: Active, or a Tick, with a nil shelf")
			}
		}
		every(l)
		l.Done()
		done := api.Word{Kind: api.WDone, From: id%5 + 1, To: id, Req: req(id, 5)}
		says(t, "a nil shelf", l.Step(done, 1))
		says(t, "a nil shelf: Done", l.Done(), done)
	}
}

// Numbers that are of no node, and a Link that New did not make, have no calls that do not end.
func TestStrangeLinks(t *testing.T) {
	links := []*link.Link{{}}
	for _, id := range []int{0, -1, 6, 7, 1 << 32, math.MaxInt, math.MinInt} {
		s, _ := shelf.Open(roll.New(100000))
		links = append(links, link.New(id, s), link.New(id, nil))
	}
	for k, l := range links {
		every(l)
		for _, now := range times() {
			if l.Active(now) || l.Ready("", now) || l.Roster().Epoch != 0 || l.Until() != 0 {
				t.Errorf("P13.1: the strange link %d stands in a chain", k)
			}
			if len(l.Write(nth(1), now)) != 0 || len(l.Ask(1, now)) != 0 {
				t.Errorf("P13.2: the strange link %d writes or asks", k)
			}
		}
	}
}

// Two of them, each on a shelf of its own, know nothing of each other; and what one does hangs on nothing else.
func TestTwoLinks(t *testing.T) {
	a, b := placed(made(t, 3, 4, 3), 0, 3, 1, 4), placed(made(t, 3, 2, 5), 0, 3, 2)
	was := b.known()
	done := api.Word{Kind: api.WDone, From: 4, To: 3, Epoch: epoch, Req: req(3, 1)}
	a.Step(api.Word{Kind: api.WAck, From: 1, To: 3, Epoch: epoch, Seq: 6}, 1)
	a.Write(nth(20), 1)
	a.Step(done, 1)
	a.lease(of(9, 0, 3, 5), 99, 1)
	knows(t, "another link", b, was)
	has(t, "another link", b)
	wasA := a.known()
	b.lease(of(8, 0, 3), 50, 1)
	b.Ask(req(3, 9), 1)
	b.Shelf().Enter(30)
	knows(t, "another link", a, wasA)
	has(t, "another link", a, done)
	// The same, done to both of two that are alike.
	c, d := placed(made(t, 1, 4, 9), 0, 3, 1, 4), placed(made(t, 1, 4, 9), 0, 3, 1, 4)
	for _, w := range grid(1) {
		if w.Kind == api.WLease {
			continue
		}
		says(t, "two that are alike", c.Step(w, 1), d.Step(w, 1)...)
	}
	knows(t, "two that are alike", c, d.known())
	has(t, "two that are alike", c, d.Done()...)
}
