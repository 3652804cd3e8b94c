package scan_test

import (
	"strings"
	"testing"

	"armarium/api"
	"armarium/scan"
)

func TestEachRequest(t *testing.T) {
	tells(t, "")
	for _, r := range requests() {
		tells(t, text(r), r)
		tells(t, text(r)+text(r), r, r)
	}
}

// TestRequestsBehindEachOther has each request behind each other one, and all of them in a row.
func TestRequestsBehindEachOther(t *testing.T) {
	l := requests()
	for _, a := range l {
		for _, b := range l {
			s := scan.New()
			if got := s.Feed(text(a) + text(b)); !same(got, []api.Request{a, b}) || s.Status() != 0 || !s.Idle() {
				t.Errorf("P15.1: %q and %q: %d, %q", a, b, s.Status(), got)
			}
		}
	}
	row := ""
	for _, r := range l {
		row += text(r)
	}
	tells(t, row, l...)
}

// TestEachPairOfCuts parts three requests at each two places.
func TestEachPairOfCuts(t *testing.T) {
	l := []api.Request{
		{Method: "PUT", Path: "/a", Query: "b?", Heads: []api.Head{{Name: "A"}, sized(3), {Name: "B-2", Value: "x y"}}, Body: "\r\nG"},
		{Method: "GET", Path: "/"},
		{Method: "D", Path: "/c", Query: "d", Heads: []api.Head{{Name: "E", Value: "f"}}},
	}
	row := text(l[0]) + text(l[1]) + text(l[2])
	for j := range len(row) + 1 {
		for k := j; k <= len(row); k++ {
			if o := feed(row[:j], row[j:k], row[k:]); !o.is(outcome{told: l, idle: true}) {
				t.Fatalf("P15.1: parted at %d and %d: %v", j, k, o)
			}
		}
	}
}

// TestToldWhenWhole asks that a request is told by the call with its last byte, and by no other one.
func TestToldWhenWhole(t *testing.T) {
	for _, r := range requests() {
		s := scan.New()
		row := text(r)
		for k := range len(row) {
			got := s.Feed(row[k : k+1])
			if whole := k == len(row)-1; whole && !same(got, []api.Request{r}) || !whole && len(got) != 0 || s.Idle() != whole || s.Status() != 0 {
				t.Fatalf("P15.1: %q at %d: %d, %t, %q", r, k, s.Status(), s.Idle(), got)
			}
			if again := s.Feed(""); len(again) != 0 {
				t.Fatalf("P15.1: %q at %d, no bytes: %q", r, k, again)
			}
		}
	}
}

func TestNoBytes(t *testing.T) {
	s := scan.New()
	for range 3 {
		if l := s.Feed(""); len(l) != 0 || s.Status() != 0 || !s.Idle() {
			t.Errorf("P15.1: no bytes: %d, %t, %q", s.Status(), s.Idle(), l)
		}
	}
}

// TestBodies has bodies of each length, and behind each another request.
func TestBodies(t *testing.T) {
	for n := range 301 {
		r := api.Request{Method: "PUT", Path: "/o/k", Heads: []api.Head{sized(n)}, Body: bytesOf(n)}
		next := api.Request{Method: "GET", Path: "/"}
		row := text(r) + text(next)
		for _, parts := range [][]string{{row}, pieces(row, 1), pieces(row, 13), {row[:len(row)-len(line)-2], line + end}, {row[:45], row[45:]}} {
			if o := feed(parts...); !o.is(outcome{told: []api.Request{r, next}, idle: true}) {
				t.Fatalf("P15.1: a body of %d bytes: %v", n, o)
			}
		}
	}
}

// TestBytesOfBodies has each byte in a body.
func TestBytesOfBodies(t *testing.T) {
	for c := range 256 {
		b := string([]byte{byte(c)})
		r := api.Request{Method: "PUT", Path: "/", Heads: []api.Head{sized(3)}, Body: b + "x" + b}
		tells(t, text(r)+line+end, r, api.Request{Method: "GET", Path: "/"})
	}
}

// TestBodiesOfRequests has bodies that are requests, or end like their heads.
func TestBodiesOfRequests(t *testing.T) {
	for _, body := range []string{line + end, end + end, "\r", "\n", line, strings.Repeat(end, 150), strings.Repeat("\x00", 300), strings.Repeat(line+end, 16)} {
		r := api.Request{Method: "PUT", Path: "/", Heads: []api.Head{sized(len(body))}, Body: body}
		tells(t, text(r), r)
		tells(t, text(r)+line+end, r, api.Request{Method: "GET", Path: "/"})
	}
}

// TestMany has a great many requests in one go.
func TestMany(t *testing.T) {
	const n = 100000
	one := api.Request{Method: "PUT", Path: "/k", Heads: []api.Head{sized(2)}, Body: "ab"}
	s := scan.New()
	l := s.Feed(strings.Repeat(text(one), n) + "G")
	if len(l) != n || s.Status() != 0 || s.Idle() {
		t.Fatalf("P15.1: %d requests: %d, %t", len(l), s.Status(), s.Idle())
	}
	for k, r := range l {
		if !same([]api.Request{r}, []api.Request{one}) {
			t.Fatalf("P15.1: the request %d: %q", k, r)
		}
	}
}

// TestLongText has a great many bytes behind what is wrong.
func TestLongText(t *testing.T) {
	long := strings.Repeat(line+end, 1<<20)
	for _, ahead := range []string{"x", "G\n", line + ":", strings.Repeat("A", 10)} {
		if o := feed(ahead + long); o.status != 400 || len(o.told) != 0 || !o.idle {
			t.Errorf("P15.1: %q, and more: %v", ahead, o)
		}
	}
	if o := feed("GET /" + strings.Repeat("a", 1<<24)); o.status != 414 || len(o.told) != 0 {
		t.Errorf("P15.1: a long first line: %v", o)
	}
	if o := feed(line + strings.Repeat("a", 1<<24)); o.status != 431 || len(o.told) != 0 {
		t.Errorf("P15.1: a long head: %v", o)
	}
}
