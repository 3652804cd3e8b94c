package pouch

import (
	"math"
	"regexp"
	"slices"
	"strconv"
	"strings"
	"testing"

	"armarium/api"
)

func num(n int64) Value     { return Value{Kind: Num, N: n} }
func str(s string) Value    { return Value{Kind: Str, S: s} }
func list(l ...Value) Value { return Value{Kind: List, L: l} }

// many is a list of n times v.
func many(n int, v Value) Value { return list(slices.Repeat([]Value{v}, n)...) }

// deep is a value that is n deep.
func deep(n int) Value {
	v := list()
	for range n - 1 {
		v = list(v)
	}
	return v
}

// around is what Put writes around a text.
func around(text, end string) string { return strconv.Itoa(len(text)) + ":" + text + end }

// empty tells whether v is the zero value.
func empty(v Value) bool { return v.Kind == 0 && v.N == 0 && v.S == "" && len(v.L) == 0 }

// one is a value and its bytes.
type one struct {
	v Value
	s string
}

// ones are values of each kind, and their bytes written out.
func ones() []one {
	return []one{
		{num(0), "1:0#"}, {num(7), "1:7#"}, {num(-1), "2:-1#"}, {num(10), "2:10#"}, {num(-120), "4:-120#"}, {num(65521), "5:65521#"},
		{num(math.MaxInt64), "19:9223372036854775807#"}, {num(math.MinInt64), "20:-9223372036854775808#"},
		{num(math.MaxInt64 - 1), "19:9223372036854775806#"}, {num(math.MinInt64 + 1), "20:-9223372036854775807#"},
		{str(""), "0:,"}, {str("a"), "1:a,"}, {str("two words"), "9:two words,"}, {str("ten bytes!"), "10:ten bytes!,"},
		{str("1:5#"), "4:1:5#,"}, {str(",]#:"), "4:,]#:,"}, {str("\x00\xff\n"), "3:\x00\xff\n,"}, {str("é€"), "5:é€,"}, {str("-0"), "2:-0,"},
		{list(), "0:]"}, {Value{Kind: List, L: []Value{}}, "0:]"}, {list(num(5)), "4:1:5#]"}, {list(str("")), "3:0:,]"}, {list(list()), "3:0:]]"},
		{list(num(-3), str("x]"), list(num(0), list()), str("")), "23:2:-3#2:x],7:1:0#0:]]0:,]"},
		{list(list(list(list(list(num(1)))))), "18:14:10:7:4:1:1#]]]]]"},
		{deep(6), "16:12:9:6:3:0:]]]]]]"},
	}
}

// whole asks that s is Put of v, to Get (what is behind it too) and to All.
func whole(t *testing.T, v Value, s string) {
	t.Helper()
	for _, behind := range []string{"", "x", "1:0#", ":", s} {
		got, n, err := Get(s + behind)
		if err != api.OK || n != len(s) || !same(got, v) {
			t.Errorf("P2.1: Get(%.60q and %.10q): %d bytes, error %d", s, behind, n, err)
		}
		got, err = All(s + behind)
		if behind == "" && (err != api.OK || !same(got, v)) {
			t.Errorf("P2.1: All(%.60q): error %d", s, err)
		}
		if behind != "" && (err != api.ErrForm || !empty(got)) {
			t.Errorf("P2.1: All(%.60q and %.10q): error %d", s, behind, err)
		}
	}
}

// fault asks that Get answers an error at s, and All too, and nothing beside it.
func fault(t *testing.T, s string, want api.Errno) {
	t.Helper()
	if v, n, err := Get(s); err != want || n != 0 || !empty(v) {
		t.Errorf("P2.1: Get(%.60q): %d bytes, error %d, not %d", s, n, err, want)
	}
	if v, err := All(s); err != api.ErrForm || !empty(v) {
		t.Errorf("P2.1: All(%.60q): error %d, not ErrForm", s, err)
	}
}

// same is Eq of trees, told in another way.
func same(a, b Value) bool {
	return a.Kind == b.Kind && a.N == b.N && a.S == b.S && slices.EqualFunc(a.L, b.L, same)
}

func TestPutAndBack(t *testing.T) {
	for _, x := range ones() {
		if !May(x.v) {
			t.Errorf("P2.1: May of %q: false", x.s)
		}
		if s := Put(x.v); s != x.s {
			t.Errorf("P2.1: Put: %q, not %q", s, x.s)
		}
		whole(t, x.v, x.s)
	}
}

// strange are values that may not be: each has a part that its kind does not have, or no kind.
func strange() []Value {
	l := []Value{{}, {Kind: 0, N: 1}, {Kind: 0, S: "a"}, {Kind: 0, L: []Value{num(1)}}, {Kind: 4}, {Kind: -1}, {Kind: math.MaxInt}, {Kind: math.MinInt},
		{Kind: 1 << 32}, {Kind: 1<<32 + 1},
		{Kind: Num, S: "1"}, {Kind: Num, N: 1, S: "1"}, {Kind: Num, L: []Value{num(1)}}, {Kind: Num, N: 2, L: []Value{{}}},
		{Kind: Str, N: 1}, {Kind: Str, N: -1, S: "a"}, {Kind: Str, L: []Value{str("a")}}, {Kind: Str, S: "a", L: []Value{{}}},
		{Kind: List, N: 1}, {Kind: List, S: "a"}, {Kind: List, N: -1, L: []Value{num(1)}}, {Kind: List, S: "a", L: []Value{num(1)}}}
	for _, v := range slices.Clone(l) {
		l = append(l, list(v), list(num(1), v), list(v, num(1)), list(list(), list(str("a"), list(v))))
	}
	return l
}

func TestOfWrong(t *testing.T) {
	for _, v := range strange() {
		if May(v) || Put(v) != "" {
			t.Errorf("P2.1: %v: May %v, Put %q", v, May(v), Put(v))
		}
	}
}

func TestNilIsEmpty(t *testing.T) {
	none := []Value{}
	room := make([]Value, 0, 3)
	for _, v := range []Value{num(3), str("s"), list(), {}} {
		for _, l := range [][]Value{none, room} {
			w := v
			w.L = l
			if May(w) != May(v) || Put(w) != Put(v) || !Eq(v, w) || !Eq(w, v) || !Eq(list(w), list(v)) {
				t.Errorf("P2.1, P0.4: an empty list in %v", v)
			}
		}
	}
}

func TestDeep(t *testing.T) {
	for n := 1; n <= 20; n++ {
		for _, v := range []Value{deep(n), list(num(1), deep(n-1), str("a"))} {
			if may := n <= 6; May(v) != may || (Put(v) != "") != may {
				t.Errorf("P2.1: %d deep: May %v, Put %q", n, May(v), Put(v))
			}
		}
	}
	for _, v := range []Value{num(1), str("a")} {
		for n := 2; n <= 20; n++ {
			v = list(v)
			if may := n <= 6; May(v) != may || (Put(v) != "") != may {
				t.Errorf("P2.1: %d deep with what is no list: May %v, Put %q", n, May(v), Put(v))
			}
		}
	}
	s := ""
	for n := 1; n <= 400; n++ {
		s = around(s, "]")
		if n <= 6 {
			whole(t, deep(n), s)
		} else {
			fault(t, s, api.ErrForm)
			fault(t, around("1:1#"+s, "]"), api.ErrForm)
		}
	}
	for _, s := range []string{"1:1#", "0:,"} {
		for n := 2; n <= 10; n++ {
			s = around(s, "]")
			if _, err := All(s); (err == api.OK) != (n <= 6) {
				t.Errorf("P2.1: All(%q), %d deep: error %d", s, n, err)
			}
		}
	}
}

// wide are lists of n values in all, themselves too: in one row, in rows, and at the greatest depth.
func wide(n int) []Value {
	rows := list(many(999, str("")), many(999, num(-1)), many(999, list()))
	rows.L = append(rows.L, slices.Repeat([]Value{num(2)}, n-3001)...)
	below := many(n-5, list())
	for range 4 {
		below = list(below)
	}
	return []Value{many(n-1, num(1)), many(n-1, str("a")), many(n-1, list()), rows, below}
}

// written is Put of a value, whether it may be or not.
func written(v Value) string {
	switch v.Kind {
	case Num:
		return around(strconv.FormatInt(v.N, 10), "#")
	case Str:
		return around(v.S, ",")
	}
	parts := []string{}
	for _, x := range v.L {
		parts = append(parts, written(x))
	}
	return around(strings.Join(parts, ""), "]")
}

func TestWide(t *testing.T) {
	for _, n := range []int{5999, 6000, 6001, 6002, 12000} {
		for k, v := range wide(n) {
			may, s := n <= 6000, written(v)
			if May(v) != may {
				t.Errorf("P2.1: May of %d values, %d: %v", n, k, !may)
			}
			if may {
				if Put(v) != s {
					t.Errorf("P2.1: Put of %d values, %d", n, k)
				}
				whole(t, v, s)
			} else {
				if Put(v) != "" {
					t.Errorf("P2.1: Put of %d values, %d", n, k)
				}
				fault(t, s, api.ErrForm)
				fault(t, s[:len(s)-1], api.ErrMore)
			}
		}
	}
	fault(t, around(strings.Repeat("0:]", 3000000), "]"), api.ErrForm)
}

func TestLongTexts(t *testing.T) {
	for n := 1; n < 10000000; n *= 10 {
		for _, k := range []int{n - 1, n} {
			v := str(strings.Repeat("x", k))
			whole(t, v, around(v.S, ","))
			if Put(v) != around(v.S, ",") {
				t.Errorf("P2.1: Put of %d bytes", k)
			}
		}
	}
	long := strings.Repeat("y", 9999999)
	if Put(str(long)) != "9999999:"+long+"," {
		t.Error("P2.1: Put of 9,999,999 bytes")
	}
	whole(t, str(long), "9999999:"+long+",")
	fault(t, "9999999:"+long, api.ErrMore)
	fault(t, "9999999:"+long+"y,", api.ErrForm)
	fault(t, "9999999:"+long+"#", api.ErrForm)
	fault(t, "9999999:"+long+"]", api.ErrForm)
	fault(t, "10000000:"+long+"y,", api.ErrForm)
	more := str(long + "y")
	for _, v := range []Value{more, list(more), list(num(1), list(more))} {
		if !May(v) || Put(v) != "" {
			t.Errorf("P2.1: a text of 10,000,000 bytes: May %v, Put of %d bytes", May(v), len(Put(v)))
		}
	}
}

// A list's text has its parts' lengths and ends in it.
func TestLongLists(t *testing.T) {
	x := strings.Repeat("z", 9999990)
	s := around("9999990:"+x+",", "]")
	if len(x)+9 != 9999999 || Put(list(str(x))) != s {
		t.Error("P2.1: Put of a list whose text has 9,999,999 bytes")
	}
	whole(t, list(str(x)), s)
	half := str(x[:4999991])
	if s := Put(list(half, half, num(0))); s != "" {
		t.Errorf("P2.1: Put of a list with a text of 10,000,004 bytes: %d", len(s))
	}
	if s := Put(list(half, str(x[:4999990]))); len(s) != 8+9999999+1 {
		t.Errorf("P2.1: Put of a list with a text of 9,999,999 bytes, in two: %d", len(s))
	}
	for _, v := range []Value{list(str(x + "z")), list(str(x), num(1)), list(list(str(x))), list(str(x), str(x)), many(5999, str(x)), many(2000, many(2, str(x)))} {
		if !May(v) && len(v.L) < 2000 || Put(v) != "" {
			t.Errorf("P2.1: a list with a text that is too long: May %v, Put of %d bytes", May(v), len(Put(v)))
		}
	}
}

func TestCutAnywhere(t *testing.T) {
	for _, x := range ones() {
		for n := range x.s {
			fault(t, x.s[:n], api.ErrMore)
		}
	}
	s := Put(wide(6000)[3])
	for n := 0; n < len(s); n += 97 {
		fault(t, s[:n], api.ErrMore)
	}
	// Where a list's own length has come to its end, a part that is cut is no beginning of anything.
	for _, text := range []string{"1", "1:", "1:5", "1:5#1", "1:5#2:a,", "3:0:", "0", "1:5#0"} {
		fault(t, around(text, "]"), api.ErrForm)
		fault(t, around(around(text, "]"), "]"), api.ErrForm)
		fault(t, around(text, "]")[:len(text)+2], api.ErrMore)
	}
}

func TestLengths(t *testing.T) {
	for _, s := range []string{"", "0", "0:", "9", "10", "1234567", "9999999", "1000000", "9999999:", "1234567:1:5#", "1000000:]]]", "7:\x00\xff", "3:1:y", "4:-0#"} {
		fault(t, s, api.ErrMore)
	}
	for _, s := range []string{"00", "00:,", "01", "01:a,", "007:", "0000001:a,", "00000000", "12345678", "10000000", "99999999:", "123456789", "18446744073709551617:a,",
		strings.Repeat("1", 1<<20), strings.Repeat("0", 1<<20), ":", ":a,", "-1", "-0:,", "+1:a,", " 1:a,", "1 :a,", "1,a,", "1a", "1-", "a", ",", "#", "]", "1.0:a,", "0x1:a,", "1_0:a,", "\x00", "\xff", "²:aa,", "0;"} {
		fault(t, s, api.ErrForm)
		fault(t, around(s, "]"), api.ErrForm)
		fault(t, around("1:1#"+s, "]"), api.ErrForm)
	}
}

func TestFirstBytes(t *testing.T) {
	for x := range 256 {
		for _, behind := range []string{"", ":a,", "1", "1:a,", ":"} {
			s := string([]byte{byte(x)}) + behind
			if x < '0' || x > '9' {
				fault(t, s, api.ErrForm)
			}
		}
		if c := string([]byte{byte(x)}); x != ':' && (x < '0' || x > '9') {
			fault(t, "1"+c, api.ErrForm)
			fault(t, "1234567"+c, api.ErrForm)
			fault(t, "0"+c+",", api.ErrForm)
		}
		if c := string([]byte{byte(x)}); c != "#" && c != "," && c != "]" {
			fault(t, "1:5"+c, api.ErrForm)
			fault(t, "0:"+c, api.ErrForm)
			fault(t, around("1:5"+c, "]"), api.ErrForm)
		}
	}
}

func TestNumbers(t *testing.T) {
	for _, text := range []string{"", "-", "+", "-0", "+0", "00", "01", "-01", "+1", "--1", "1-", " 1", "1 ", "1.0", "1e3", "0x1", "1_000", "a", "é", "\x00", "1\x00", "٣",
		"9223372036854775808", "-9223372036854775809", "9999999999999999999", "-9999999999999999999", "18446744073709551615", "18446744073709551616", "18446744073709551617",
		"10000000000000000000000", "09223372036854775807", "-00", strings.Repeat("1", 1000000), strings.Repeat("0", 1000000), "1:5#", "0:]"} {
		fault(t, around(text, "#"), api.ErrForm)
		fault(t, around(around(text, "#"), "]"), api.ErrForm)
		fault(t, around(text, "#")[:len(around(text, "#"))-1], api.ErrMore)
		whole(t, str(text), around(text, ","))
	}
	for k := range 63 {
		for _, n := range []int64{1 << k, 1<<k - 1, -1 << k, -1<<k + 1} {
			s := around(strconv.FormatInt(n, 10), "#")
			if Put(num(n)) != s {
				t.Errorf("P2.1: Put of %d: %q", n, Put(num(n)))
			}
			whole(t, num(n), s)
		}
	}
}

// short are the Puts of at most n bytes of numbers, of texts of these letters and of lists of such.
func short(n int, letters string) map[string]Value {
	all := map[string]Value{}
	for x := int64(-999); x <= 9999; x++ {
		all[around(strconv.FormatInt(x, 10), "#")] = num(x)
	}
	texts := []string{""}
	for k := 0; k < len(texts); k++ {
		all[around(texts[k], ",")] = str(texts[k])
		if len(texts[k]) < n-3 {
			for _, c := range letters {
				texts = append(texts, texts[k]+string(c))
			}
		}
	}
	// What is left for a list are three bytes, and no part has fewer: it has one part, or none.
	all["0:]"] = list()
	all["3:0:,]"] = list(str(""))
	all["3:0:]]"] = list(list())
	return all
}

// Each text of at most six bytes of some letters is held against all Puts of such: what begins with one, and what
// none begins with.
func TestEachShortText(t *testing.T) {
	const letters = "0134:-#,]a"
	puts := short(6, letters)
	cut := regexp.MustCompile(`^(0|[1-9][0-9]{0,6})?$|^(0|[1-9][0-9]{0,6}):`)
	texts := []string{""}
	for k := 0; k < len(texts); k++ {
		s := texts[k]
		if len(s) < 6 {
			for _, c := range letters {
				texts = append(texts, s+string(c))
			}
		}
		n := 1
		for n < len(s) && puts[s[:n]].Kind == 0 {
			n++
		}
		want := api.ErrForm
		if n <= len(s) && puts[s[:n]].Kind != 0 {
			want = api.OK
		} else if at := strings.IndexByte(s, ':'); cut.MatchString(s) {
			if long, _ := strconv.Atoi(s[:max(at, 0)]); at < 0 || len(s) < at+1+long+1 {
				want = api.ErrMore
			}
		}
		v, m, err := Get(s)
		if err != want || want == api.OK && (m != n || !same(v, puts[s[:n]])) || want != api.OK && (m != 0 || !empty(v)) {
			t.Fatalf("P2.1: Get(%q): %v, %d bytes, error %d, not %d", s, v, m, err, want)
		}
		if _, err := All(s); (err == api.OK) != (want == api.OK && n == len(s)) || err != api.OK && err != api.ErrForm {
			t.Fatalf("P2.1: All(%q): error %d", s, err)
		}
	}
}

// Whatever Get takes is a Put, to the byte.
func TestOneByteChanged(t *testing.T) {
	for _, x := range ones() {
		for k := range x.s {
			for c := range 256 {
				b := []byte(x.s)
				b[k] = byte(c)
				v, n, err := Get(string(b))
				if err == api.OK && (!May(v) || Put(v) != string(b[:n])) || err != api.OK && (n != 0 || !empty(v)) {
					t.Errorf("P2.1: Get(%q): %d bytes, error %d", b, n, err)
				}
			}
		}
	}
}

func TestNewMemory(t *testing.T) {
	room := []Value{num(1), str("a"), list(num(2)), num(9)}
	v := list(room[:3]...)
	s := Put(v)
	if May(v); !Eq(v, v) || !same(room[3], num(9)) || !same(v, list(num(1), str("a"), list(num(2)))) {
		t.Error("P0.3: a list that was handed in was changed")
	}
	a, _, _ := Get(s)
	b, _ := All(s)
	c := append(a.L, num(7))
	c[0], a.L[1], a.L[2].L[0] = num(8), num(8), num(8)
	_ = append(a.L[2].L, num(8), num(8), num(8))
	if !same(b, v) || !same(v, list(num(1), str("a"), list(num(2)))) || Put(v) != s || !same(a.L[1], num(8)) {
		t.Error("P0.3: one answer changed another one")
	}
	if again, _ := All(s); !same(again, v) {
		t.Error("P0.5: another answer at the same bytes")
	}
}
