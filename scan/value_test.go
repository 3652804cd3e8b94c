package scan_test

import (
	"math"
	"strconv"
	"strings"
	"testing"

	"armarium/api"
	"armarium/scan"
)

// with is a request with these heads: name, value, name, value.
func with(l ...string) api.Request {
	r := api.Request{Method: "PUT", Path: "/"}
	for k := 0; k+1 < len(l); k += 2 {
		r.Heads = append(r.Heads, api.Head{Name: l[k], Value: l[k+1]})
	}
	return r
}

func value(t *testing.T, r api.Request, name, want string, there bool) {
	t.Helper()
	if v, ok := scan.Value(r, name); v != want || ok != there {
		t.Errorf("P15.1: Value(%.200q, %q): %q, %t", r.Heads, name, v, ok)
	}
}

func TestValueOfHeads(t *testing.T) {
	r := with("A", "1", "b-2", "", "a", "2", "Content-Length", "3", "B-2", "4", "zZ", " x ")
	for _, x := range []struct{ name, want string }{
		{"A", "1"}, {"a", "1"}, {"b-2", ""}, {"B-2", ""}, {"Content-Length", "3"}, {"content-length", "3"}, {"CONTENT-LENGTH", "3"}, {"zz", " x "}, {"ZZ", " x "}, {"Zz", " x "}, {"zZ", " x "},
	} {
		value(t, r, x.name, x.want, true)
	}
	for _, name := range []string{"", "b", "B", "b-", "-2", "b_2", "b-22", " A", "A ", "A:", "A\x00", "AA", "Content", "Content-Length ", "Content-Length:", "\x01", "\xc1", "z\u017f", "1"} {
		value(t, r, name, "", false)
	}
	for _, name := range []string{"", "A", "Content-Length"} {
		value(t, api.Request{}, name, "", false)
		value(t, api.Request{Heads: []api.Head{}}, name, "", false)
		value(t, api.Request{Method: name, Path: name, Query: name, Body: name + ": 1"}, name, "", false)
	}
}

// TestValueOfStrangeHeads has heads that Feed never tells.
func TestValueOfStrangeHeads(t *testing.T) {
	r := with("", "none", "A b", "blank", "\x00", "nought", "\xff\xfe", "bytes", "é", "letter", "\u212a", "kelvin", "K:", "colon", "", "again")
	for _, x := range []struct{ name, want string }{{"", "none"}, {"a B", "blank"}, {"\x00", "nought"}, {"\xff\xfe", "bytes"}, {"é", "letter"}, {"\u212a", "kelvin"}, {"k:", "colon"}} {
		value(t, r, x.name, x.want, true)
	}
	for _, name := range []string{"k", "K", "É", "\xff", "\xfe\xff", "\ufffd", "\x20", "a\x00b"} {
		value(t, r, name, "", false)
	}
	long := strings.Repeat("A-Long-Name", 10000)
	value(t, with(long[1:], "1", long, "2"), strings.ToLower(long), "2", true)
	value(t, with("s", "1", "k", "2"), "\u017f", "", false)
	value(t, with("s", "1", "k", "2"), "\u212a", "", false)
	value(t, with("\u017f", "1", "\u212a", "2"), "S", "", false)
	value(t, with("\u017f", "1", "\u212a", "2"), "k", "", false)
}

// TestCaseOfEachByte holds each byte against each other one.
func TestCaseOfEachByte(t *testing.T) {
	for a := range 256 {
		for b := range 256 {
			x, y := string([]byte{byte(a)}), string([]byte{byte(b)})
			alike := a == b || strings.Contains(letters, x) && strings.ToLower(x) == y || strings.Contains(letters, y) && strings.ToLower(y) == x
			for _, name := range []struct{ of, asked string }{{x, y}, {"n" + x, "N" + y}, {x + "-n", y + "-N"}, {"N" + x + "n", "n" + y + "N"}} {
				want := ""
				if alike {
					want = "v"
				}
				if v, ok := scan.Value(with("Other", "w", name.of, "v"), name.asked); v != want || ok != alike {
					t.Fatalf("P15.1: Value of the head %q for %q: %q, %t", name.of, name.asked, v, ok)
				}
			}
		}
	}
}

func TestFirstOfOneName(t *testing.T) {
	for n := 1; n <= 12; n++ {
		for first := range n {
			var r api.Request
			for k := range n {
				h := api.Head{Name: "Other-" + strconv.Itoa(k), Value: "other"}
				if k >= first && (k-first)%2 == 0 {
					h = api.Head{Name: []string{"NAME", "name", "Name"}[k%3], Value: strconv.Itoa(k)}
				}
				r.Heads = append(r.Heads, h)
			}
			for _, name := range []string{"NAME", "name", "nAmE"} {
				value(t, r, name, strconv.Itoa(first), true)
			}
		}
	}
}

// TestLengthOfTold has the sizes of requests that Feed told.
func TestLengthOfTold(t *testing.T) {
	for n := range 301 {
		for _, size := range []string{strconv.Itoa(n), "000000"[len(strconv.Itoa(n)):] + strconv.Itoa(n)} {
			l := scan.New().Feed("PUT / HTTP/1.1\r\nA:9\r\ncontent-LENGTH: " + size + " \r\nB:8\r\n\r\n" + xs(n))
			if len(l) != 1 || scan.Length(l[0]) != n || len(l[0].Body) != n {
				t.Fatalf("P15.1: Length of %s: %q", size, l)
			}
			value(t, l[0], "Content-Length", size, true)
		}
	}
	for _, r := range requests() {
		l := scan.New().Feed(text(r))
		if len(l) != 1 || scan.Length(l[0]) != len(r.Body) {
			t.Errorf("P15.1: Length of %q: %q", r, l)
		}
	}
}

// TestLengthOfOthers has requests that Feed does not tell. What is no number of 1 to 6 digits tells no length.
func TestLengthOfOthers(t *testing.T) {
	for _, x := range []struct {
		r    api.Request
		want int
	}{
		{api.Request{}, 0}, {api.Request{Body: "body"}, 0}, {with("Length", "3", "Content", "4"), 0}, {with("Content-Length", "301"), 301}, {with("content-length", "999999"), 999999}, {with("A", "1", "CONTENT-LENGTH", "000017"), 17},
		{with("Content-Length", "2", "Content-Length", "3"), 2}, {with("content-LENGTH", "7", "Content-Length", "7"), 7}, {with("Content-Length", "0", "Content-Length", "3"), 0}, {with("Transfer-Encoding", "4", "Content-Length", "5"), 5},
	} {
		if n := scan.Length(x.r); n != x.want {
			t.Errorf("P15.1: Length(%q): %d, not %d", x.r.Heads, n, x.want)
		}
	}
	for _, value := range []string{"", " ", "x", "+1", "-1", "1x", "x1", "1 ", " 1", "1.0", "0x1", "1234567", "0000001", "9999999", "99999999999999999999", "18446744073709551617", "\x00", "\xff", "٣", "１", "1\n", strconv.Itoa(math.MinInt), strconv.Itoa(math.MaxInt), strings.Repeat("9", 100000)} {
		if n := scan.Length(with("Content-Length", value)); n != 0 {
			t.Errorf("P15.1: Length of %.60q: %d", value, n)
		}
	}
}
