package tome

import (
	"fmt"
	"math"
	"regexp"
	"slices"
	"strings"
	"testing"

	"armarium/api"
)

const top = int64(1) << 40

// xs is a text of n letters.
func xs(n int) string { return strings.Repeat("x", n) }

// entry is an entry with a good key.
func entry(vs ...api.Version) api.Entry { return api.Entry{Key: "a/key", Vs: vs} }

// there and gone are versions.
func there(ver int64, body string) api.Version { return api.Version{Ver: ver, Body: body} }

func gone(ver int64) api.Version { return api.Version{Ver: ver, Gone: true} }

// hundreds is an entry with n versions: 100, 200 and so on; each third one says that it is gone.
func hundreds(n int) api.Entry {
	e := entry()
	for k := 1; k <= n; k++ {
		v := there(int64(100*k), fmt.Sprint("body ", k))
		if k%3 == 0 {
			v = gone(int64(100 * k))
		}
		e.Vs = append(e.Vs, v)
	}
	return e
}

// same tells whether a and b are the same entry; nil versions are like none.
func same(a, b api.Entry) bool { return a.Key == b.Key && slices.Equal(a.Vs, b.Vs) }

func mayBe(t *testing.T, what string, e api.Entry, want bool) {
	t.Helper()
	if May(e) != want {
		t.Errorf("P6.1: May, %s: %t", what, !want)
	}
	if allowed(e) != want {
		t.Errorf("the second reckoning of May, %s: %t", what, !want)
	}
}

// The chapter's words once more: by a pattern, and by each two versions.
var keyPattern = regexp.MustCompile(`\A[a-z0-9._/-]{1,40}\z`)

// allowed is a second reckoning of May.
func allowed(e api.Entry) bool {
	ok := keyPattern.MatchString(e.Key) && len(e.Vs) > 0 && len(e.Vs) < 13
	for k, v := range e.Vs {
		for _, w := range e.Vs[:k] {
			ok = ok && w.Ver < v.Ver
		}
		ok = ok && v.Ver > 0 && v.Ver < 1099511627777 && len(v.Body) < 301
		ok = ok && (v == gone(v.Ver) || v == there(v.Ver, v.Body))
	}
	return ok
}

func TestMayOfCounts(t *testing.T) {
	for n, want := range map[int]bool{0: false, 1: true, 2: true, 3: true, 11: true, 12: true, 13: false, 14: false, 24: false, 256: false, 257: false, 268: false, 1000: false} {
		mayBe(t, fmt.Sprint(n, " versions"), hundreds(n), want)
	}
	mayBe(t, "the zero entry", api.Entry{}, false)
	mayBe(t, "an empty list", api.Entry{Key: "k", Vs: []api.Version{}}, false)
	mayBe(t, "an empty list with room", api.Entry{Key: "k", Vs: hundreds(3).Vs[:0]}, false)
}

func TestMayOfKeys(t *testing.T) {
	keys := map[string]bool{
		"a": true, "k": true, "0": true, ".": true, "-": true, "_": true, "/": true, "a/b.c-d_9": true, xs(39): true, xs(40): true,
		"": false, xs(41): false, xs(80): false, xs(1 << 16): false, "K": false, "a b": false, "a\n": false, "é": false, "a\x00": false, "\xff": false, "a+": false,
	}
	for k := range 256 {
		x := byte(k)
		keys[string([]byte{'a', x})] = strings.IndexByte("abcdefghijklmnopqrstuvwxyz0123456789.-_/", x) >= 0
	}
	for key, good := range keys {
		for _, n := range []int{0, 1, 2, 11, 12, 13} {
			e := hundreds(n)
			e.Key = key
			mayBe(t, fmt.Sprintf("%d versions of %.50q", n, key), e, good && 1 <= n && n <= 12)
		}
	}
}

// places are the first place, the one in the middle and the last one of n.
func places(n int) []int { return slices.Compact([]int{0, n / 2, n - 1}) }

// with is an entry of n versions, with v at the place k.
func with(n, k int, v api.Version) api.Entry {
	e := hundreds(n)
	e.Vs[k] = v
	return e
}

func TestMayOfNumbers(t *testing.T) {
	for _, n := range []int{1, 2, 3, 11, 12} {
		for _, k := range places(n) {
			first, last := k == 0, k == n-1
			before, behind := int64(100*k), int64(100*k+200)
			numbers := map[int64]bool{
				math.MinInt64: false, -top: false, -100: false, -1: false, 0: false,
				top + 1: false, 2 * top: false, math.MaxInt64 - 1: false, math.MaxInt64: false,
				1: first, 2: first, top - 1: last, top: last,
				before: false, before - 1: false, before + 1: true,
				behind - 1: true, behind: last, behind + 1: last,
			}
			for ver, want := range numbers {
				for _, v := range []api.Version{there(ver, ""), there(ver, "x"), gone(ver)} {
					mayBe(t, fmt.Sprintf("%d versions, at %d: %+v", n, k, v), with(n, k, v), want)
				}
			}
		}
	}
}

func TestMayOfFullRanges(t *testing.T) {
	low, high := entry(), entry()
	for k := range int64(12) {
		low.Vs = append(low.Vs, there(1+k, ""))
		high.Vs = append(high.Vs, there(top-11+k, xs(300)))
	}
	mayBe(t, "1 to 12", low, true)
	mayBe(t, "the twelve greatest", high, true)
	low.Vs[11], high.Vs[0] = there(top, ""), there(1, "")
	mayBe(t, "1 to 11, and the greatest", low, true)
	mayBe(t, "1, and the eleven greatest", high, true)
	slices.Reverse(high.Vs)
	mayBe(t, "falling", high, false)
	mayBe(t, "the last two the other way round", entry(there(1, ""), there(3, ""), there(2, "")), false)
	mayBe(t, "the first two the other way round", entry(there(2, ""), there(1, ""), there(3, "")), false)
	mayBe(t, "the first again at the end", entry(there(1, ""), there(2, ""), there(1, "")), false)
}

func TestMayOfBodies(t *testing.T) {
	bodies := map[string]bool{"": true, "x": true, "\x00": true, "\xff": true, xs(299): true, xs(300): true, xs(301): false, xs(556): false, xs(1 << 16): false, strings.Repeat("\xff", 300): true, strings.Repeat("é", 150): true, strings.Repeat("é", 151): false}
	for _, n := range []int{1, 2, 3, 11, 12} {
		for _, k := range places(n) {
			for body, want := range bodies {
				ver := int64(100*k + 100)
				what := fmt.Sprintf("%d versions, at %d a body of %d bytes", n, k, len(body))
				mayBe(t, what, with(n, k, there(ver, body)), want)
				mayBe(t, what+", gone", with(n, k, api.Version{Ver: ver, Gone: true, Body: body}), body == "")
			}
		}
	}
}

// several goes through versions at their edges and beyond.
func several(yield func(api.Version) bool) {
	for _, ver := range []int64{-1, 0, 1, 2, 3, top, top + 1} {
		for _, body := range []string{"", "x", xs(300), xs(301)} {
			if !yield(there(ver, body)) || !yield(api.Version{Ver: ver, Gone: true, Body: body}) {
				return
			}
		}
	}
}

func TestMayOfMixedVersions(t *testing.T) {
	n := [4]int{}
	look := func(vs ...api.Version) {
		e := entry(vs...)
		want := allowed(e)
		if want {
			n[len(vs)]++
		}
		if May(e) != want {
			t.Fatalf("P6.1: May of %+v: %t", e, !want)
		}
	}
	for a := range several {
		look(a)
		for b := range several {
			look(a, b)
			for c := range several {
				look(a, b, c)
			}
		}
	}
	// 4 of the numbers and 4 of the rest may be
	if n != [4]int{0, 16, 96, 256} {
		t.Errorf("so many of them may be: %v", n)
	}
}

func TestNow(t *testing.T) {
	for _, x := range []struct {
		what string
		e    api.Entry
		v    api.Version
		want bool
	}{
		{"the zero entry", api.Entry{}, api.Version{}, false},
		{"of no version", entry(), api.Version{}, false},
		{"of an empty list with room", api.Entry{Key: "k", Vs: hundreds(3).Vs[:0]}, api.Version{}, false},
		{"there", entry(there(1, "x")), there(1, "x"), true},
		{"there, empty", entry(there(7, "")), there(7, ""), true},
		{"gone", entry(gone(1)), gone(1), false},
		{"there behind one that is gone", entry(there(1, "x"), gone(2), there(3, "y")), there(3, "y"), true},
		{"gone behind one that is there", entry(there(1, "x"), there(2, "y"), gone(3)), gone(3), false},
		{"the greatest", entry(there(1, "x"), there(top, xs(300))), there(top, xs(300)), true},
		{"of twelve, gone", hundreds(12), gone(1200), false},
		{"of thirteen", hundreds(13), there(1300, "body 13"), true},
		{"not rising", entry(there(9, "x"), there(4, "y")), there(4, "y"), true},
		{"twice", entry(there(4, "x"), there(4, "y")), there(4, "y"), true},
		{"number 0", entry(there(5, "x"), there(0, "y")), there(0, "y"), true},
		{"the zero version", entry(there(5, "x"), api.Version{}), api.Version{}, true},
		{"gone, with a body", entry(there(5, "x"), api.Version{Ver: -6, Gone: true, Body: "y"}), api.Version{Ver: -6, Gone: true, Body: "y"}, false},
		{"too long", entry(there(math.MaxInt64, xs(301))), there(math.MaxInt64, xs(301)), true},
		{"of no key", api.Entry{Vs: []api.Version{there(1, "x")}}, there(1, "x"), true},
	} {
		if v, is := Now(x.e); v != x.v || is != x.want {
			t.Errorf("P6.1: Now, %s: %.40q, %t", x.what, fmt.Sprint(v), is)
		}
	}
}

// digits is the mark of s, reckoned by ints.
func digits(s string) string {
	a, b := 0, 1
	for _, x := range []byte(s) {
		a, b = (3*a+(65521-5)*b+int(x)+1)%65521, (5*a+3*b)%65521
	}
	return fmt.Sprintf("%04x%04x", a, b)
}

func TestHolds(t *testing.T) {
	bodies := []string{"", "x", "y", "body", "\x00", "\xff", xs(300), xs(301)}
	tags := []string{"", " ", "00000000", "fff10000", "X", "005d0003 ", "005D0003", "005d000", "5d0003", xs(1 << 10)}
	for _, body := range bodies {
		tags = append(tags, digits(body))
	}
	for _, body := range append(bodies, "a") {
		for _, e := range []api.Entry{
			entry(there(1, body)), entry(gone(1), there(2, body)), entry(there(1, "older"), there(top, body)), entry(there(2, "older"), there(1, body)),
			{Vs: []api.Version{there(0, body)}},
		} {
			for _, tag := range append(tags, "005d0003") {
				holds(t, e, tag, [3]bool{true, false, tag == digits(body)})
			}
			holds(t, e, digits("older"), [3]bool{true, false, false})
		}
	}
	for _, e := range []api.Entry{
		{}, entry(), {Vs: hundreds(3).Vs[:0]}, entry(gone(1)), entry(there(1, "x"), gone(2)), entry(there(1, ""), there(2, "x"), gone(3)),
		entry(api.Version{Ver: 1, Gone: true, Body: "x"}), hundreds(12),
	} {
		for _, tag := range tags {
			holds(t, e, tag, [3]bool{true, true, false})
		}
	}
}

// holds looks at what holds of e, under each condition and others.
func holds(t *testing.T, e api.Entry, tag string, want [3]bool) {
	t.Helper()
	for cond, is := range want {
		if Holds(e, cond, tag) != is {
			t.Errorf("P6.1: Holds, %.80q, %d, %.20q: %t", fmt.Sprint(e), cond, tag, !is)
		}
	}
	for _, cond := range []int{math.MinInt, -1 << 32, -2, -1, 3, 4, 256, 257, 258, 1 << 32, 1<<32 + 1, 1<<32 + 2, math.MaxInt - 1, math.MaxInt} {
		if Holds(e, cond, tag) {
			t.Errorf("P6.1: Holds, %.80q, %d, %.20q: true", fmt.Sprint(e), cond, tag)
		}
	}
}

func TestHoldsWrittenOut(t *testing.T) {
	for body, tag := range map[string]string{"": "00000001", "a": "005d0003", "ab": "016b01da"} {
		holds(t, entry(there(1, body)), tag, [3]bool{true, false, true})
		holds(t, entry(there(1, body+"!")), tag, [3]bool{true, false, false})
		holds(t, entry(there(1, body), gone(2)), tag, [3]bool{true, true, false})
	}
}
