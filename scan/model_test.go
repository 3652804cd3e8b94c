package scan_test

import (
	"fmt"
	"math/rand"
	"regexp"
	"strconv"
	"strings"
	"testing"

	"armarium/api"
	"armarium/scan"
)

// beginning finds the longest beginning of parts that stand one behind the other.
func beginning(parts ...string) *regexp.Regexp {
	s := ""
	for k := len(parts) - 1; k >= 0; k-- {
		s = "(?:" + parts[k] + s + ")?"
	}
	re := regexp.MustCompile("^" + s)
	re.Longest()
	return re
}

var (
	firstLine = beginning("[A-Z]{1,10}", " ", "/", `[!-"$->@-~]*(?:\?[!-"$-~]*)?`, " ", "H", "T", "T", "P", "/", "1", "[.]", "1", "\r", "\n")
	headLine  = beginning("[A-Za-z0-9-]+", ":", "[\t -~]*", "\r", "\n")
	lastLine  = beginning("\r", "\n")
	isLength  = regexp.MustCompile("^(?i:content-length)$")
	isCoding  = regexp.MustCompile("^(?i:transfer-encoding)$")
	isNumber  = regexp.MustCompile("^[0-9]{1,6}$")
)

// waiting is the place of what is not there yet.
const waiting = -1

// reckonLine is how long the line at the text's beginning is; or waiting; or the place of what is wrong, and its status.
func reckonLine(text string, line *regexp.Regexp, most, long int) (int, int) {
	n := len(line.FindString(text))
	switch {
	case len(text) > most && n >= most && !strings.Contains(text[:most+1], "\r"):
		return most, long
	case strings.HasSuffix(text[:n], "\r\n"):
		return n, 0
	case n < len(text):
		return n, 400
	}
	return waiting, 0
}

// reckonHead is likewise for one more line behind the first one.
func reckonHead(text string, before int) (int, int) {
	switch {
	case strings.HasPrefix(text, "\r"):
		return reckonLine(text, lastLine, len(text), 0)
	case before == 10 && text != "":
		return 0, 431
	}
	return reckonLine(text, headLine, 120, 431)
}

// reckonSize is how many bytes a body has, or what is wrong with the heads.
func reckonSize(heads []api.Head) (int, int) {
	size, lengths := 0, 0
	for _, h := range heads {
		switch {
		case isCoding.MatchString(h.Name):
			return 0, 400
		case isLength.MatchString(h.Name):
			if lengths++; lengths > 1 || !isNumber.MatchString(h.Value) {
				return 0, 400
			}
			size, _ = strconv.Atoi(h.Value)
		}
	}
	if size > 300 {
		return 0, 413
	}
	return size, 0
}

// reckonOne is the request at the text's beginning, and how long it is; or waiting; or where what is wrong.
func reckonOne(text string) (r api.Request, at, status int) {
	n, status := reckonLine(text, firstLine, 200, 414)
	if n == waiting || status != 0 {
		return r, n, status
	}
	words := strings.Fields(text[:n])
	r.Method = words[0]
	r.Path, r.Query, _ = strings.Cut(words[1], "?")
	for at = n; ; at += n {
		n, status = reckonHead(text[at:], len(r.Heads))
		switch {
		case n == waiting:
			return r, waiting, 0
		case status != 0:
			return r, at + n, status
		}
		row := text[at : at+n]
		if row == "\r\n" {
			break
		}
		name, value, _ := strings.Cut(row, ":")
		r.Heads = append(r.Heads, api.Head{Name: name, Value: strings.Trim(value, " \t\r\n")})
	}
	size, status := reckonSize(r.Heads)
	switch {
	case status != 0:
		return r, at + 1, status
	case len(text) < at+2+size:
		return r, waiting, 0
	}
	r.Body = text[at+2 : at+2+size]
	return r, at + 2 + size, 0
}

// reckon is what must come of text, line by line and not byte by byte; and the place of the byte that is wrong.
func reckon(text string) (outcome, int) {
	o := outcome{idle: true}
	for at := 0; at < len(text); {
		r, n, status := reckonOne(text[at:])
		switch {
		case n == waiting:
			o.idle = false
			return o, waiting
		case status != 0:
			o.status = status
			return o, at + n
		}
		o.told = append(o.told, r)
		at += n
	}
	return o, waiting
}

// asReckoned asks that of text comes what must come: in one go, parted at a place, and byte by byte, where Status has
// to turn at the right one.
func asReckoned(t *testing.T, text string, at int) {
	t.Helper()
	want, wrong := reckon(text)
	for k, parts := range [][]string{{text}, {text[:at], text[at:]}} {
		if got := feed(parts...); !got.is(want) {
			t.Fatalf("P15.1: %q, %d: %v, not %v", text, k, got, want)
		}
	}
	s := scan.New()
	var o outcome
	turned := waiting
	for k := range len(text) {
		o.told = append(o.told, s.Feed(text[k:k+1])...)
		if turned == waiting && s.Status() != 0 {
			turned = k
		}
	}
	if o.status, o.idle = s.Status(), s.Idle(); !o.is(want) || turned != wrong {
		t.Fatalf("P15.1: %q byte by byte: %v, wrong at %d, not %v, at %d", text, o, turned, want, wrong)
	}
}

// TestModelByHand has what the model itself must tell.
func TestModelByHand(t *testing.T) {
	for _, x := range []struct {
		text         string
		told, status int
		idle         bool
		wrong        int
	}{
		{"", 0, 0, true, waiting}, {"G", 0, 0, false, waiting}, {"g", 0, 400, true, 0}, {line + end, 1, 0, true, waiting}, {line + end + line + "\rx", 1, 400, true, 18 + 17},
		{"GET /" + strings.Repeat("a", 196), 0, 414, true, 200}, {line + "A:" + strings.Repeat("b", 119), 0, 431, true, 16 + 120}, {line + strings.Repeat("A:b\r\n", 11), 0, 431, true, 16 + 50},
		{line + "Content-Length: 301\r\n\r\n", 0, 413, true, 16 + 22}, {line + "Content-Length: 2\r\n\r\nx", 0, 0, false, waiting}, {line + "Content-Length: 2\r\n\r\nxyz", 1, 400, true, 16 + 23},
	} {
		if o, wrong := reckon(x.text); len(o.told) != x.told || o.status != x.status || o.idle != x.idle || wrong != x.wrong {
			t.Errorf("the model of %q: %v, %d", x.text, o, wrong)
		}
	}
}

// TestEachByteTurned has three requests with each byte at each other value, taken out, and each value put in.
func TestEachByteTurned(t *testing.T) {
	l := []api.Request{
		{Method: "PUT", Path: "/a", Query: "b?", Heads: []api.Head{{Name: "A", Value: "c d"}, sized(3), {Name: "E-2"}}, Body: "\r\nG"},
		{Method: "D", Path: "/"},
		{Method: "GETGETGETG", Path: "/f", Heads: heads(1)},
	}
	row := text(l[0]) + text(l[1]) + text(l[2])
	for k := range row {
		for c := range 256 {
			b := string([]byte{byte(c)})
			asReckoned(t, row[:k]+b+row[k+1:], k+1)
			asReckoned(t, row[:k]+b+row[k:], k)
		}
		asReckoned(t, row[:k]+row[k+1:], k)
		asReckoned(t, row[:k]+row[k:k+1]+row[k:], k)
	}
}

// TestEachPieceTurned has a request with each piece of it taken out, twice there, and other bytes in its place.
func TestEachPieceTurned(t *testing.T) {
	r := api.Request{Method: "PUT", Path: "/a", Query: "b", Heads: []api.Head{{Name: "A", Value: "c"}, sized(2)}, Body: "xy"}
	row := text(r)
	for j := range row {
		for k := j + 1; k <= len(row); k++ {
			for _, piece := range []string{"", row[j:k] + row[j:k], "\r", "\n", "\r\n", "\r\n\r\n", " ", ":", "A"} {
				asReckoned(t, row[:j]+piece+row[k:]+line+end, j)
			}
		}
	}
}

// maker makes requests that are right, or nearly so.
type maker struct{ *rand.Rand }

func (m maker) pick(l ...string) string { return l[m.Intn(len(l))] }

func (m maker) bytes(of string, n int) string {
	l := make([]byte, n)
	for k := range l {
		l[k] = of[m.Intn(len(of))]
	}
	return string(l)
}

// around is a number that is often the bound or next to it.
func (m maker) around(bound int) int {
	if m.Intn(3) == 0 {
		return bound - 1 + m.Intn(3)
	}
	return m.Intn(bound)
}

func (m maker) first() string {
	method, target := m.bytes(letters, 1+m.around(10)), "/"+m.bytes("ab!~.?", m.Intn(6))
	s := method + " " + target
	if m.Intn(4) == 0 {
		s += m.bytes("c?/", max(0, m.around(192)-len(s)))
	}
	return s + " HTTP/1.1\r\n"
}

func (m maker) head() string {
	switch m.Intn(9) {
	case 0:
		return m.pick("Content-Length", "content-LENGTH", "Content-Length ") + ":" + m.bytes(" \t", m.Intn(3)) + m.pick(strconv.Itoa(m.around(300)), fmt.Sprintf("%06d", m.around(300)), m.bytes("0123456789", m.around(6)), "", "+1", "1 2") + m.pick("", " ", "\t")
	case 1:
		return m.pick("Transfer-Encoding", "TRANSFER-encoding", "Transfer-Encodin") + ": x"
	case 2:
		name := m.bytes("ab-9", 1+m.around(60))
		return name + ":" + m.bytes("c :\t~", max(0, m.around(120)-len(name)-1))
	}
	return m.bytes("AbcZ-09", 1+m.Intn(4)) + ":" + m.bytes("xy :\t", m.Intn(6))
}

func (m maker) request() string {
	s := m.first()
	n := m.Intn(4)
	if m.Intn(4) == 0 {
		n = m.around(10)
	}
	var size []string
	for range n {
		size = append(size, m.head())
		s += size[len(size)-1] + "\r\n"
	}
	return s + "\r\n" + m.body(size)
}

// body is one of the size that a head tells, most times.
func (m maker) body(heads []string) string {
	for _, h := range heads {
		name, value, _ := strings.Cut(h, ":")
		if n, err := strconv.Atoi(strings.Trim(value, " \t")); err == nil && isLength.MatchString(name) {
			return m.bytes("abc\r\n /:", max(0, min(n, 301)-m.Intn(20)/19))
		}
	}
	return ""
}

func (m maker) text() string {
	s := ""
	for range 1 + m.Intn(4) {
		s += m.request()
	}
	for range m.Intn(3) {
		k := m.Intn(len(s) + 1)
		s = s[:k] + m.pick(" ", "\r", "\n", "\r\n", ":", "?", "#", "a", "\x00", "\x80", "\t") + s[min(len(s), k+m.Intn(2)):]
	}
	return s
}

// TestManyTexts has rows of requests, right ones and others, parted at all kinds of places.
func TestManyTexts(t *testing.T) {
	seen := map[int]int{}
	for seed := range int64(20000) {
		m := maker{rand.New(rand.NewSource(seed))}
		row := m.text()
		asReckoned(t, row, m.Intn(len(row)+1))
		want, _ := reckon(row)
		seen[want.status]++
		var parts []string
		for rest := row; rest != ""; {
			n := min(len(rest), m.Intn(40))
			parts, rest = append(parts, rest[:n]), rest[n:]
		}
		if got := feed(parts...); !got.is(want) {
			t.Fatalf("P15.1: %q: %v, not %v", parts, got, want)
		}
	}
	for _, status := range []int{0, 400, 413, 414, 431} {
		if seen[status] < 100 {
			t.Errorf("the status %d came %d times only", status, seen[status])
		}
	}
}
