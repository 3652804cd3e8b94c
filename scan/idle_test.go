package scan_test

import (
	"testing"

	"armarium/api"
	"armarium/scan"
)

func TestIdleOfNew(t *testing.T) {
	s := scan.New()
	if !s.Idle() || s.Status() != 0 {
		t.Errorf("P15.1: a new one: %d, %t", s.Status(), s.Idle())
	}
}

// TestWaits parts each request at each place: something waits but at the request's ends, also behind others, and where
// it is asked twice.
func TestWaits(t *testing.T) {
	for _, r := range requests() {
		row := text(r)
		for _, ahead := range []string{"", line + end, row} {
			for k := range len(row) + 1 {
				s := scan.New()
				s.Feed(ahead + row[:k])
				idle := k == 0 || k == len(row)
				if s.Idle() != idle || s.Idle() != idle || s.Status() != 0 {
					t.Fatalf("P15.1: %q behind %d bytes, %d of it: Idle %t, Status %d", r, len(ahead), k, s.Idle(), s.Status())
				}
				s.Feed("")
				if s.Idle() != idle || s.Status() != 0 {
					t.Fatalf("P15.1: %q, %d of it, and no bytes: Idle %t", r, k, s.Idle())
				}
				got := s.Feed(row[k:])
				if k < len(row) && !same(got, []api.Request{r}) || !s.Idle() {
					t.Fatalf("P15.1: %q, the rest from %d on: %t, %q", r, k, s.Idle(), got)
				}
			}
		}
	}
}

// TestIdleInEachPart has the beginnings of each part, by hand.
func TestIdleInEachPart(t *testing.T) {
	size := "Content-Length: 3\r\n"
	for _, row := range []string{
		"G", "GET", "GET ", "GET /", "GET /a", "GET /a?", "GET /a?b", "GET / ", "GET / H", "GET / HTTP/1.1", "GET / HTTP/1.1\r", line, line + "A", line + "A:", line + "A: ", line + "A: b", line + "A: b\r",
		line + "A: b\r\n", line + "A: b\r\n\r", line + "\r", line + size, line + size + "\r", line + size + "\r\n", line + size + "\r\na", line + size + "\r\n\r\n",
	} {
		waits(t, row)
		r := api.Request{Method: "GET", Path: "/"}
		waits(t, line+end+row, r)
		r.Heads, r.Body = []api.Head{sized(3)}, "abc"
		waits(t, line+size+end+"abc"+row, r)
	}
	tells(t, line+size+end+"\r\n\r", api.Request{Method: "GET", Path: "/", Heads: []api.Head{sized(3)}, Body: "\r\n\r"})
}

// TestIdleOfEachWrongByte asks at each byte of what ends in one that is wrong.
func TestIdleOfEachWrongByte(t *testing.T) {
	for _, row := range []string{"GET /#", line + "A\r", line + "A:b\n", line + "Content-Length: 301\r\n\r\n", "GET /" + xs(196), line + xs(121)} {
		s := scan.New()
		for k := range len(row) {
			s.Feed(row[k : k+1])
			if wrong := k == len(row)-1; s.Idle() != wrong || (s.Status() != 0) != wrong {
				t.Fatalf("P15.1: %.60q at %d: %t, %d", row, k, s.Idle(), s.Status())
			}
		}
	}
}
