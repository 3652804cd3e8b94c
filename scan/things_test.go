package scan_test

import (
	"fmt"
	"reflect"
	"strings"
	"testing"

	"armarium/api"
	"armarium/scan"
)

// line is a first line, and end what ends its request.
const (
	line = "GET / HTTP/1.1\r\n"
	end  = "\r\n"
)

// outcome is what came of bytes: what was told, and how the Scan stands behind them.
type outcome struct {
	told   []api.Request
	status int
	idle   bool
}

// plain is a request with nil in the place of an empty list.
func plain(r api.Request) api.Request {
	if len(r.Heads) == 0 {
		r.Heads = nil
	}
	return r
}

func plainAll(l []api.Request) []api.Request {
	var all []api.Request
	for _, r := range l {
		all = append(all, plain(r))
	}
	return all
}

func same(a, b []api.Request) bool { return reflect.DeepEqual(plainAll(a), plainAll(b)) }

func (o outcome) is(p outcome) bool {
	return same(o.told, p.told) && o.status == p.status && o.idle == p.idle
}

func (o outcome) String() string {
	return fmt.Sprintf("%d, %t, %.600s", o.status, o.idle, fmt.Sprintf("%q", o.told))
}

// feed is what comes of the parts, one behind the other.
func feed(parts ...string) outcome {
	s := scan.New()
	var o outcome
	for _, part := range parts {
		o.told = append(o.told, s.Feed(part)...)
	}
	o.status, o.idle = s.Status(), s.Idle()
	return o
}

// pieces are the parts of text of n bytes each.
func pieces(text string, n int) []string {
	var l []string
	for ; len(text) > n; text = text[n:] {
		l = append(l, text[:n])
	}
	return append(l, text)
}

// comes asks that o comes of text, however it is parted.
func comes(t *testing.T, text string, o outcome) {
	t.Helper()
	if got := feed(text); !got.is(o) {
		t.Fatalf("P15.1: %.300q: %v, not %v", text, got, o)
	}
	for _, n := range []int{1, 2, 3, 7, 64} {
		if got := feed(pieces(text, n)...); !got.is(o) {
			t.Fatalf("P15.1: %.300q, by %d bytes: %v, not %v", text, n, got, o)
		}
	}
	for k := range len(text) + 1 {
		if got := feed(text[:k], text[k:]); !got.is(o) {
			t.Fatalf("P15.1: %.300q, parted at %d: %v, not %v", text, k, got, o)
		}
		if got := feed("", text[:k], "", "", text[k:], ""); !got.is(o) {
			t.Fatalf("P15.1: %.300q, parted at %d, and no bytes: %v, not %v", text, k, got, o)
		}
	}
}

// tells asks that just these requests come of text, and nothing waits.
func tells(t *testing.T, text string, l ...api.Request) {
	t.Helper()
	comes(t, text, outcome{told: l, idle: true})
}

// waits asks that just these requests come of text, and that what is behind them waits.
func waits(t *testing.T, text string, l ...api.Request) {
	t.Helper()
	comes(t, text, outcome{told: l})
}

// refuses asks that text is right up to its last byte, which has the status, behind just these requests; and that
// nothing comes behind that.
func refuses(t *testing.T, text string, status int, l ...api.Request) {
	t.Helper()
	ahead, last := text[:len(text)-1], text[len(text)-1:]
	if o := feed(ahead); o.status != 0 || !same(o.told, l) {
		t.Fatalf("P15.1: %.300q, but the last byte: %v", text, o)
	}
	want := outcome{told: l, status: status, idle: true}
	for _, parts := range [][]string{{ahead, last, line + end}, pieces(text, 1), {text + end}, {text + line + end, line + end}} {
		if o := feed(parts...); !o.is(want) {
			t.Fatalf("P15.1: %.300q: %v, not %v", parts, o, want)
		}
	}
}

// fails asks so, too, however text is parted, and whatever comes behind it.
func fails(t *testing.T, text string, status int, l ...api.Request) {
	t.Helper()
	refuses(t, text, status, l...)
	comes(t, text, outcome{told: l, status: status, idle: true})
	s := scan.New()
	s.Feed(text)
	for k, b := range []string{text[len(text)-1:], "", end, line + end, "\n", strings.Repeat(line+end, 5), "\x00"} {
		if got := s.Feed(b); len(got) != 0 || s.Status() != status || !s.Idle() {
			t.Fatalf("P15.1: %.300q, behind it at %d: %d, %t, %q", text, k, s.Status(), s.Idle(), got)
		}
	}
}

// text is a request as bytes.
func text(r api.Request) string {
	s := r.Method + " " + r.Path
	if r.Query != "" {
		s += "?" + r.Query
	}
	s += " HTTP/1.1\r\n"
	for _, h := range r.Heads {
		s += h.Name + ": " + h.Value + "\r\n"
	}
	return s + "\r\n" + r.Body
}

// sized is how the length of a body is told.
func sized(n int) api.Head { return api.Head{Name: "Content-Length", Value: fmt.Sprint(n)} }

// heads are n heads.
func heads(n int) []api.Head {
	var l []api.Head
	for k := range n {
		l = append(l, api.Head{Name: fmt.Sprint("Name-", k), Value: fmt.Sprint("value, ", k*k)})
	}
	return l
}

// bytesOf are n bytes of all sorts.
func bytesOf(n int) string {
	l := make([]byte, n)
	for k := range l {
		l[k] = byte(k*7 + 3)
	}
	return string(l)
}

// requests are some of each sort.
func requests() []api.Request {
	return []api.Request{
		{Method: "GET", Path: "/"},
		{Method: "GET", Path: "/a/b", Query: "version=7"},
		{Method: "X", Path: "/~!", Query: "?"},
		{Method: "ABCDEFGHIJ", Path: "//a//", Query: "a?b??/c", Heads: heads(1)},
		{Method: "PUT", Path: "/o/key", Heads: []api.Head{sized(1)}, Body: "G"},
		{Method: "PUT", Path: "/o/key", Query: "x", Heads: append(heads(9), sized(2)), Body: "\r\n"},
		{Method: "PUT", Path: "/o", Heads: append([]api.Head{sized(0)}, heads(9)...)},
		{Method: "POST", Path: "/o/a", Heads: []api.Head{{Name: "A"}, sized(len(line + end)), {Name: "-", Value: "b"}}, Body: line + end},
		{Method: "PUT", Path: "/all", Heads: []api.Head{{Name: "A", Value: "a  b"}, sized(300)}, Body: bytesOf(300)},
		{Method: "DELETE", Path: "/o/a", Heads: heads(10)},
		{Method: "PUT", Path: "/0", Heads: []api.Head{sized(5)}, Body: "\x00\xff\x80\n\r"},
	}
}

const letters = "ABCDEFGHIJKLMNOPQRSTUVWXYZ"

// inName tells what a head's name may have.
func inName(c byte) bool {
	return strings.IndexByte(letters+strings.ToLower(letters)+"0123456789-", c) >= 0
}

// visible are the bytes from the one behind the blank to `~`.
func visible(c byte) bool { return c >= 0x21 && c <= 0x7e }
