package deed

import (
	"fmt"
	"math"
	"slices"
	"strconv"
	"strings"
	"testing"

	"armarium/api"
	"armarium/pouch"
)

// zero tells whether v is the zero value.
func zero(v pouch.Value) bool { return v.Kind == 0 && v.N == 0 && v.S == "" && len(v.L) == 0 }

// same tells whether two parts are the same, neither of which is a list.
func same(a, b pouch.Value) bool {
	return a.Kind == b.Kind && a.N == b.N && a.S == b.S && len(a.L) == 0 && len(b.L) == 0
}

// wanted are the parts of d, as the chapter tells them.
func wanted(d api.Deed) []pouch.Value {
	return []pouch.Value{
		{Kind: 1, N: int64(d.Kind)}, {Kind: 2, S: d.Key}, {Kind: 2, S: d.Body}, {Kind: 1, N: d.Ver},
		{Kind: 1, N: int64(d.Cond)}, {Kind: 2, S: d.Tag}, {Kind: 1, N: d.Req}, {Kind: 1, N: d.Low},
	}
}

// written is d in bytes, whether it may be or not.
func written(d api.Deed) string {
	s := ""
	for _, x := range wanted(d) {
		text, end := strconv.FormatInt(x.N, 10), "#"
		if x.Kind == 2 {
			text, end = x.S, ","
		}
		s += fmt.Sprint(len(text), ":", text, end)
	}
	return fmt.Sprint(len(s), ":", s, "]")
}

// read is a second reckoning of Get: what is cut out of s, if it comes to s again when it is written.
func read(s string) (api.Deed, bool) {
	_, text, _ := strings.Cut(s, ":")
	parts := []string{}
	for range 8 {
		digits, rest, _ := strings.Cut(text, ":")
		n, err := strconv.Atoi(digits)
		if err != nil || n < 0 || n >= len(rest) {
			return api.Deed{}, false
		}
		parts, text = append(parts, rest[:n]), rest[n+1:]
	}
	n := func(k int) int64 { x, _ := strconv.ParseInt(parts[k], 10, 64); return x }
	d := api.Deed{Kind: int(n(0)), Key: parts[1], Body: parts[2], Ver: n(3), Cond: int(n(4)), Tag: parts[5], Req: n(6), Low: n(7)}
	if !allowed(d) || written(d) != s {
		return api.Deed{}, false
	}
	return d, true
}

// back asks that d, which may be, is written as the chapter says, and read again.
func back(t *testing.T, d api.Deed) {
	t.Helper()
	v := Value(d)
	if v.Kind != 3 || v.N != 0 || v.S != "" || !slices.EqualFunc(v.L, wanted(d), same) {
		t.Errorf("P5.1: Value of %+v: %v", d, v)
	}
	if got, ok := Of(v); got != d || !ok {
		t.Errorf("P5.1: Of Value of %+v: %+v, %t", d, got, ok)
	}
	s := Put(d)
	if s != written(d) {
		t.Errorf("P5.1: Put of %+v: %q", d, s)
	}
	if got, err := Get(s); got != d || err != api.OK {
		t.Errorf("P5.1: Get of Put of %+v: %+v, error %d", d, got, err)
	}
}

// noDeed asks that v is no deed's, and that no text of it is.
func noDeed(t *testing.T, what string, v pouch.Value) {
	t.Helper()
	if d, ok := Of(v); d != (api.Deed{}) || ok {
		t.Errorf("P5.1: Of %s: %+v, %t", what, d, ok)
	}
	if s := pouch.Put(v); s != "" {
		noText(t, s)
	}
}

// noText asks that s is no deed's.
func noText(t *testing.T, s string) {
	t.Helper()
	if d, err := Get(s); d != (api.Deed{}) || err != api.ErrForm {
		t.Errorf("P5.1: Get of %.80q: %+v, error %d", s, d, err)
	}
}

// valid are deeds that may be: those of each kind with each field at its edges.
func valid() []api.Deed {
	l := three()
	for _, turns := range [][]turned{keysAndBodies(), versions(), conditions(), requests()} {
		for _, x := range turns {
			for k, d := range three() {
				if x.may[k] {
					x.set(&d)
					l = append(l, d)
				}
			}
		}
	}
	return l
}

func TestWrittenOut(t *testing.T) {
	for _, x := range []struct {
		d api.Deed
		s string
	}{
		{api.Deed{Kind: 1, Key: "k", Body: "v", Req: base + 7, Low: 3}, "41:1:1#1:k,1:v,1:0#1:0#0:,10:4294967303#1:3#]"},
		{api.Deed{Kind: 1, Key: "a.b", Cond: 1, Req: base + 1}, "42:1:1#3:a.b,0:,1:0#1:1#0:,10:4294967297#1:0#]"},
		{api.Deed{Kind: 1, Key: "k", Body: ",]#:", Cond: 2, Tag: "00000001", Req: 3*base - 1, Low: 3*base - 1}, "64:1:1#1:k,4:,]#:,1:0#1:2#8:00000001,11:12884901887#11:12884901887#]"},
		{api.Deed{Kind: 2, Key: "/", Req: 2*base + 1}, "40:1:2#1:/,0:,1:0#1:0#0:,10:8589934593#1:0#]"},
		{api.Deed{Kind: 3, Key: "k", Ver: 1 << 40, Req: 6*base - 1}, "54:1:3#1:k,0:,13:1099511627776#1:0#0:,11:25769803775#1:0#]"},
	} {
		if got := Put(x.d); got != x.s {
			t.Errorf("P5.1: Put of %+v: %s, not %s", x.d, got, x.s)
		}
		if got, err := Get(x.s); got != x.d || err != api.OK {
			t.Errorf("P5.1: Get of %s: %+v, error %d", x.s, got, err)
		}
		if got, ok := read(x.s); got != x.d || !ok {
			t.Errorf("the second reckoning of %s: %+v", x.s, got)
		}
	}
}

func TestThereAndBack(t *testing.T) {
	for _, d := range valid() {
		back(t, d)
	}
}

func TestNoneOfWhatMayNotBe(t *testing.T) {
	for _, turns := range [][]turned{kinds(), keysAndBodies(), versions(), conditions(), requests()} {
		for _, x := range turns {
			for k, d := range three() {
				if x.may[k] {
					continue
				}
				x.set(&d)
				if v := Value(d); !zero(v) {
					t.Errorf("P5.1: Value of the kind %d with %s: %v", k+1, x.what, v)
				}
				if s := Put(d); s != "" {
					t.Errorf("P5.1: Put of the kind %d with %s: %.80q", k+1, x.what, s)
				}
				noDeed(t, "parts of a deed that may not be", pouch.Value{Kind: 3, L: wanted(d)})
				noText(t, written(d))
			}
		}
	}
}

func TestOfOtherNumbersOfParts(t *testing.T) {
	for _, d := range three() {
		l := wanted(d)
		for n := range l {
			noDeed(t, "fewer parts", pouch.Value{Kind: 3, L: l[:n]})
			noDeed(t, "its last parts", pouch.Value{Kind: 3, L: l[n+1:]})
			noDeed(t, "all parts but one", pouch.Value{Kind: 3, L: slices.Concat(l[:n], l[n+1:])})
			noDeed(t, "a part twice", pouch.Value{Kind: 3, L: slices.Concat(l[:n+1], l[n:])})
			noDeed(t, "one part alone", l[n])
		}
		for _, more := range []pouch.Value{{}, {Kind: 1}, {Kind: 2}, {Kind: 3}, l[7]} {
			noDeed(t, "a part more", pouch.Value{Kind: 3, L: slices.Concat(l, []pouch.Value{more})})
			noDeed(t, "a part ahead", pouch.Value{Kind: 3, L: slices.Concat([]pouch.Value{more}, l)})
		}
		noDeed(t, "its parts twice", pouch.Value{Kind: 3, L: slices.Concat(l, l)})
		noDeed(t, "its parts many times", pouch.Value{Kind: 3, L: slices.Repeat(l, 1000)})
		noDeed(t, "its value within one", pouch.Value{Kind: 3, L: []pouch.Value{{Kind: 3, L: l}}})
	}
}

func TestOfOtherParts(t *testing.T) {
	for _, d := range three() {
		for k, x := range wanted(d) {
			digits := strconv.FormatInt(x.N, 10)
			for _, other := range []pouch.Value{
				{}, {Kind: 1}, {Kind: 2}, {Kind: 3}, {N: x.N, S: x.S}, {Kind: 4, N: x.N, S: x.S}, {Kind: -1, N: x.N, S: x.S}, {Kind: 3, N: x.N, S: x.S},
				{Kind: 3 - x.Kind, N: x.N, S: x.S}, {Kind: 3 - x.Kind, N: x.N}, {Kind: 3 - x.Kind, S: x.S}, {Kind: 2, S: digits}, {Kind: 3, L: []pouch.Value{x}},
				{Kind: x.Kind, N: x.N, S: x.S, L: []pouch.Value{{Kind: 1}}}, {Kind: x.Kind, N: x.N, S: x.S, L: []pouch.Value{{}}},
				{Kind: x.Kind, N: x.N + 1, S: x.S + "x"}, {Kind: x.Kind, N: x.N + int64(x.Kind) - 1, S: x.S + strings.Repeat("x", 2-x.Kind)},
			} {
				l := wanted(d)
				l[k] = other
				v := pouch.Value{Kind: 3, L: l}
				if got, ok := read(plain(l)); allPlain(l) && ok {
					ofDeed(t, v, got)
					continue
				}
				noDeed(t, fmt.Sprintf("the kind %d with another part %d: %+v", d.Kind, k, other), v)
			}
		}
	}
}

// plain is a list of these parts in bytes, as far as they are numbers and texts.
func plain(l []pouch.Value) string {
	s := ""
	for _, x := range l {
		if x.Kind == 1 {
			digits := strconv.FormatInt(x.N, 10)
			s += fmt.Sprint(len(digits), ":", digits, "#")
		} else {
			s += fmt.Sprint(len(x.S), ":", x.S, ",")
		}
	}
	return fmt.Sprint(len(s), ":", s, "]")
}

// allPlain tells whether all parts are numbers and texts, and nothing beside.
func allPlain(l []pouch.Value) bool {
	for _, x := range l {
		number, text := x.Kind == 1 && x.S == "", x.Kind == 2 && x.N == 0
		if !number && !text || len(x.L) > 0 {
			return false
		}
	}
	return true
}

// ofDeed asks that v is d's.
func ofDeed(t *testing.T, v pouch.Value, d api.Deed) {
	t.Helper()
	if got, ok := Of(v); got != d || !ok {
		t.Errorf("P5.1: Of %+v: %+v, %t", v, got, ok)
	}
}

func TestOfOtherValues(t *testing.T) {
	for _, d := range three() {
		l := wanted(d)
		for _, v := range []pouch.Value{
			{L: l}, {Kind: 1, L: l}, {Kind: 2, L: l}, {Kind: 4, L: l}, {Kind: -3, L: l}, {Kind: 3, N: 1, L: l}, {Kind: 3, S: "x", L: l}, {Kind: 2, S: written(d)},
		} {
			noDeed(t, "a deed's parts, but not in a list alone", v)
		}
		slices.Reverse(l)
		noDeed(t, "parts in another order", pouch.Value{Kind: 3, L: l})
	}
	for _, v := range []pouch.Value{
		{}, {Kind: 1}, {Kind: 1, N: 8}, {Kind: 1, N: math.MinInt64}, {Kind: 2}, {Kind: 2, S: "x"}, {Kind: 2, S: ks(8)}, {Kind: 3}, {Kind: 3, L: []pouch.Value{}},
		{Kind: 3, L: make([]pouch.Value, 8)}, {Kind: math.MaxInt}, {Kind: math.MinInt}, {Kind: 3, L: make([]pouch.Value, 1<<20)},
	} {
		noDeed(t, "no deed's value", v)
	}
}

// A value that comes in may be deeper than any that may be, and a list may be a part of itself.
func TestOfValuesWithoutEnd(t *testing.T) {
	for k := range 8 {
		l := wanted(three()[0])
		around := pouch.Value{Kind: 3, L: l}
		l[k] = around
		noDeed(t, "a list that is a part of itself", around)
		deep := pouch.Value{}
		for range 100000 {
			deep = pouch.Value{Kind: 3, L: []pouch.Value{deep, deep}}
		}
		l = wanted(three()[0])
		l[k] = deep
		noDeed(t, "a very deep value", pouch.Value{Kind: 3, L: l})
		l = wanted(three()[0])
		l[k].L = l
		noDeed(t, "a part that has all of them", pouch.Value{Kind: 3, L: l})
	}
}

func TestGetWithSomethingBehind(t *testing.T) {
	for _, d := range three() {
		s := written(d)
		for _, more := range []string{"x", " ", "\n", "\x00", "]", ",", "#", ":", "0", "0:,", "1:0#", "0:]", s, s[:len(s)-1]} {
			noText(t, s+more)
			noText(t, more+s)
		}
	}
}

func TestGetOfPieces(t *testing.T) {
	for _, d := range three() {
		s := written(d)
		for n := range s {
			noText(t, s[:n])
			noText(t, s[n+1:])
			noText(t, s[:n]+s[n+1:])
		}
	}
}

// judged asks of Get what the second reckoning says, and tells whether s is a deed's.
func judged(t *testing.T, s string) bool {
	t.Helper()
	want, ok := read(s)
	if !ok {
		noText(t, s)
		return false
	}
	if d, err := Get(s); d != want || err != api.OK || Put(d) != s {
		t.Errorf("P5.1: Get of %.80q: %+v, error %d, not %+v", s, d, err, want)
	}
	return true
}

func TestGetWithOneByteChanged(t *testing.T) {
	good, bad := 0, 0
	for _, d := range three() {
		s := written(d)
		for k := range s {
			for x := range 256 {
				changed := s[:k] + string([]byte{byte(x)}) + s[k+1:]
				if judged(t, changed) {
					good++
				} else {
					bad++
				}
			}
		}
	}
	if good == 0 || bad == 0 {
		t.Errorf("%d changed texts are deeds', %d are not", good, bad)
	}
}

func TestGetWithOneByteMore(t *testing.T) {
	for _, d := range three() {
		s := written(d)
		for k := range len(s) + 1 {
			for _, x := range []string{"0", "1", "-", "+", ",", "#", "]", ":", " ", "x", "\x00", "\xff"} {
				judged(t, s[:k]+x+s[k:])
			}
		}
	}
}

func TestGetOfOtherTexts(t *testing.T) {
	s := written(three()[0])
	for _, other := range []string{
		"", "x", ":", "0:]", "0:,", "1:0#", "1:5#", "8:", "41:", "8:00000000]", "24:0:,0:,0:,0:,0:,0:,0:,0:,]", "32:1:0#1:0#1:0#1:0#1:0#1:0#1:0#1:0#]",
		"28:1:0#0:,0:,1:0#1:0#0:,1:0#1:0#]", all(), ks(1 << 20), strings.Repeat("0", 1000), strings.Repeat("1:", 1000), strings.Repeat(s, 1000),
		fmt.Sprint(len(s), ":", s, ","), fmt.Sprint(len(s), ":", s, "]"), "00000001" + s, strings.ToUpper(s), strings.Replace(s, "]", ",", 1),
		"9223372036854775807:" + s, "-1:" + s, "99999999999999999999:" + s,
	} {
		noText(t, other)
	}
}

// Numbers that no field has, or that were others if they were cut to fewer bits.
func TestGetOfOtherNumbers(t *testing.T) {
	big := []string{"9223372036854775807", "9223372036854775808", "-9223372036854775808", "18446744073709551617", "4294967297", "4294967298", "257", "-1", "-0", "01", "+1", "1.0", "1e0", "0x1", " 1", "1 ", "", "one"}
	for _, d := range three() {
		for k, x := range wanted(d) {
			for _, number := range big {
				if x.Kind == 1 {
					judged(t, withNumber(d, k, number))
				}
			}
		}
	}
}

// withNumber is d in bytes with another number as its k-th part.
func withNumber(d api.Deed, k int, number string) string {
	s := ""
	for n, x := range wanted(d) {
		text := plain([]pouch.Value{x})
		_, text, _ = strings.Cut(text, ":")
		text = strings.TrimSuffix(text, "]")
		if n == k {
			text = fmt.Sprint(len(number), ":", number, "#")
		}
		s += text
	}
	return fmt.Sprint(len(s), ":", s, "]")
}

func TestAnswersAreNewMemory(t *testing.T) {
	for _, d := range three() {
		first, second := Value(d), Value(d)
		room := first.L[:cap(first.L)]
		for k := range room {
			room[k] = pouch.Value{Kind: 2, S: "written over"}
		}
		for _, v := range []pouch.Value{second, Value(d)} {
			if !slices.EqualFunc(v.L, wanted(d), same) {
				t.Errorf("P0.3: Value of %+v, when another answer was written into: %v", d, v)
			}
		}
		back(t, d)
	}
}

func TestWhatComesInStays(t *testing.T) {
	for _, d := range three() {
		room := append(wanted(d), pouch.Value{Kind: 2, S: "spare"})
		v := pouch.Value{Kind: 3, L: room[:8]}
		got, ok := Of(v)
		if !ok || !slices.EqualFunc(room[:8], wanted(d), same) || room[8].S != "spare" {
			t.Errorf("P0.3: Of changed what came in: %v", room)
		}
		clear(room)
		if got != d {
			t.Errorf("P0.3: what Of answered was changed: %+v", got)
		}
	}
}
