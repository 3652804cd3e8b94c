package scan_test

import (
	"slices"
	"strings"
	"sync"
	"testing"

	"armarium/api"
	"armarium/scan"
)

func TestNil(t *testing.T) {
	var s *scan.Scan
	for _, b := range []string{"", "x", line + end, line, strings.Repeat(line+end, 100)} {
		if l := s.Feed(b); l != nil || s.Status() != 400 || !s.Idle() {
			t.Errorf("P15.1: a nil one, %.60q: %q, %d, %t", b, l, s.Status(), s.Idle())
		}
	}
}

// TestTwoAtOnce gives two Scans their bytes in turn, one of them ahead of the other one.
func TestTwoAtOnce(t *testing.T) {
	l := requests()
	for _, a := range l {
		for _, b := range l {
			x, y := scan.New(), scan.New()
			one, two := text(a), text(b)
			var gotOne, gotTwo []api.Request
			for k := range max(len(one), len(two)) {
				gotOne = append(gotOne, x.Feed(one[min(k, len(one)):min(k+1, len(one))])...)
				gotTwo = append(gotTwo, y.Feed(two[min(k, len(two)):min(k+1, len(two))])...)
			}
			if !same(gotOne, []api.Request{a}) || !same(gotTwo, []api.Request{b}) || !x.Idle() || !y.Idle() {
				t.Fatalf("P0.5: %q and %q at once: %q, %q", a, b, gotOne, gotTwo)
			}
		}
	}
	x, y := scan.New(), scan.New()
	x.Feed("GET /#")
	if l := y.Feed(line + end); len(l) != 1 || y.Status() != 0 || x.Status() != 400 {
		t.Errorf("P0.5: one that failed, and another one: %d, %d", x.Status(), y.Status())
	}
}

// TestManyAtOnce has a Scan a goroutine.
func TestManyAtOnce(t *testing.T) {
	row := ""
	for _, r := range requests() {
		row += text(r)
	}
	var all sync.WaitGroup
	for k := range 8 {
		all.Go(func() {
			for range 20 {
				if o := feed(pieces(row, k+1)...); !o.is(outcome{told: requests(), idle: true}) {
					t.Errorf("P0.5: by %d bytes: %v", k+1, o)
				}
			}
		})
	}
	all.Wait()
}

// spoil writes over what was told, its heads, and the room behind both.
func spoil(l []api.Request) {
	l = l[:cap(l)]
	for k := range l {
		heads := l[k].Heads[:cap(l[k].Heads)]
		for j := range heads {
			heads[j] = api.Head{Name: "Content-Length", Value: "3"}
		}
		l[k] = api.Request{Method: "SPOILT", Path: "/spoilt", Query: "spoilt", Heads: heads, Body: "spoilt"}
	}
}

// copied is l in memory of its own.
func copied(l []api.Request) []api.Request {
	l = slices.Clone(l)
	for k := range l {
		l[k].Heads = slices.Clone(l[k].Heads)
	}
	return l
}

// TestToldMayBeChanged spoils what was told by one call: nothing that another call told, or tells, changes.
func TestToldMayBeChanged(t *testing.T) {
	l := requests()
	row := ""
	for _, r := range l {
		row += text(r)
	}
	for k := range len(row) {
		s := scan.New()
		first := s.Feed(row[:k])
		was := copied(first)
		second := s.Feed(row[k:] + row)
		want := copied(second)
		spoil(first)
		third := s.Feed(row)
		if !same(second, want) || !same(slices.Concat(was, second), slices.Concat(l, l)) || !same(third, l) {
			t.Fatalf("P0.3: parted at %d, the first answer spoilt: %q", k, third)
		}
		spoil(second)
		if !same(third, l) || !same(s.Feed(row), l) || s.Status() != 0 || !s.Idle() {
			t.Fatalf("P0.3: parted at %d, the second answer spoilt", k)
		}
	}
}

// TestHeadsStandByThemselves adds to the heads of each request of one answer: no other one's change.
func TestHeadsStandByThemselves(t *testing.T) {
	l := requests()
	row := ""
	for _, r := range l {
		row += text(r)
	}
	got := scan.New().Feed(row)
	for k := range got {
		heads := got[k].Heads[:cap(got[k].Heads)]
		for j := range heads {
			heads[j] = api.Head{Name: "Spoilt", Value: "spoilt"}
		}
		if !same(got[k+1:], l[k+1:]) {
			t.Fatalf("P0.3: the heads of the request %d are another one's", k)
		}
	}
}

// TestSpoiltInTheMiddle spoils what was told while another request waits, at each place of that one.
func TestSpoiltInTheMiddle(t *testing.T) {
	r := api.Request{Method: "PUT", Path: "/a", Query: "b", Heads: append(heads(3), sized(4)), Body: "body"}
	row := text(r)
	for k := range len(row) {
		s := scan.New()
		spoil(s.Feed(row + row[:k]))
		if l := s.Feed(row[k:]); !same(l, []api.Request{r}) {
			t.Fatalf("P0.3: spoilt at %d: %q", k, l)
		}
	}
}

// TestHandedInStays asks Length and Value of a request, which stays as it was, spare room too.
func TestHandedInStays(t *testing.T) {
	list := []api.Head{{Name: "A", Value: " b "}, {Name: "content-length", Value: "7"}, {Name: "Spare", Value: "room"}}
	r := api.Request{Method: "GET", Path: "/", Heads: list[:2]}
	was := slices.Clone(list)
	for _, name := range []string{"A", "a", "Content-Length", "Spare", ""} {
		_, ok := scan.Value(r, name)
		if ok != (name != "Spare" && name != "") || scan.Length(r) != 7 || !slices.Equal(list, was) {
			t.Errorf("P0.3: Value of %q: %t, %d, %q", name, ok, scan.Length(r), list)
		}
	}
}

// TestAgain asks for the same once more, behind other things.
func TestAgain(t *testing.T) {
	rows := []string{"", "G", "x", line + end, line + "Content-Length: 2\r\n\r\nx", line + "Content-Length: 301\r\n\r\n", text(requests()[5]), text(requests()[8]), "GET /" + xs(196)}
	var first []outcome
	for _, row := range rows {
		first = append(first, feed(row))
	}
	for k := len(rows) - 1; k >= 0; k-- {
		if o := feed(rows[k]); !o.is(first[k]) {
			t.Errorf("P0.5: %q: %v, then %v", rows[k], first[k], o)
		}
	}
}

// TestAsking asks for Status and Idle between all bytes, which turns nothing.
func TestAsking(t *testing.T) {
	for _, r := range requests() {
		s := scan.New()
		var l []api.Request
		row := text(r)
		for k := range len(row) {
			s.Status()
			s.Idle()
			l = append(l, s.Feed(row[k:k+1])...)
			s.Idle()
			s.Status()
		}
		if !same(l, []api.Request{r}) {
			t.Errorf("P0.5: %q, asked between: %q", r, l)
		}
	}
}
