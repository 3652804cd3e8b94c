package scan_test

import (
	"strings"
	"testing"

	"armarium/api"
)

// longest has ten heads, each with blanks around its value, and a body.
func longest() string {
	s := "PUT /a/b?c=d HTTP/1.1\r\n"
	for _, h := range append(heads(9), sized(2)) {
		s += h.Name + ":\t " + h.Value + " \r\n"
	}
	return s + "\r\nxy"
}

// TestEndsAtEachPlace puts CR, LF and rows of them in at each place of a request, and in the place of each byte.
func TestEndsAtEachPlace(t *testing.T) {
	for _, row := range []string{longest(), text(requests()[1]), text(requests()[5]), line + end} {
		for k := range len(row) + 1 {
			for _, b := range []string{"\r", "\n", "\r\n", "\n\r", "\r\r", "\n\n", "\r\n\r\n", "\rx", "\r\x00", "\r ", "\r\n ", "\r\n\t", "\n "} {
				asReckoned(t, row[:k]+b+row[k:], k)
				asReckoned(t, row[:k]+b+row[min(k+1, len(row)):], k)
				asReckoned(t, row[:k]+b, k)
			}
		}
	}
}

// TestLFWithoutCR has LF behind each byte of a request but CR, where no body is.
func TestLFWithoutCR(t *testing.T) {
	for _, row := range []string{"PUT /a?b HTTP/1.1\r\nA: b c \r\nContent-Length: 2\r\n", line} {
		for k := range len(row) + 1 {
			if k == 0 || row[k-1] != '\r' {
				fails(t, row[:k]+"\n", 400)
			}
		}
	}
}

// TestCRWhereNoLineEnds has CR behind each byte of a first line and of a name.
func TestCRWhereNoLineEnds(t *testing.T) {
	row := "PUT /a?b HTTP/1.1"
	for k := range row {
		fails(t, row[:k]+"\r", 400)
	}
	for _, name := range []string{"A", "a-9", "Content-Length"} {
		for k := 1; k <= len(name); k++ {
			fails(t, line+name[:k]+"\r", 400)
			fails(t, line+"A:b\r\n"+name[:k]+"\r", 400)
		}
	}
}

// TestBehindCR has each byte but LF behind each CR that may be.
func TestBehindCR(t *testing.T) {
	ten := line + strings.Repeat("A:b\r\n", 10)
	for c := range 256 {
		if c == '\n' {
			continue
		}
		b := string([]byte{byte(c)})
		for _, ahead := range []string{"GET / HTTP/1.1\r", line + "\r", line + "A:\r", line + "A:b\r", line + "A: \r", line + "A:b\r\n\r", ten + "\r", line + "Content-Length: 301\r", line + "Content-Length: 301\r\n\r"} {
			fails(t, ahead+b, 400)
		}
	}
}

// TestCREndsHeads has a line of CR alone behind none to ten heads.
func TestCREndsHeads(t *testing.T) {
	for n := range 11 {
		r := api.Request{Method: "GET", Path: "/", Heads: heads(n)}
		row := text(r)
		waits(t, row[:len(row)-2])
		waits(t, row[:len(row)-1])
		tells(t, row, r)
		fails(t, row+"\r", 400, r)
		fails(t, row+"\n", 400, r)
	}
}
