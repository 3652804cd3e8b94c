package deed

import (
	"fmt"
	"math"
	"regexp"
	"strings"
	"testing"

	"armarium/api"
)

const base = int64(1) << 32

// all is each byte once.
func all() string {
	b := make([]byte, 256)
	for k := range b {
		b[k] = byte(k)
	}
	return string(b)
}

// ks is a text of n letters.
func ks(n int) string { return strings.Repeat("k", n) }

// inKey tells of each byte whether a key may have it, by what the chapter says.
func inKey(x byte) bool {
	return 'a' <= x && x <= 'z' || '0' <= x && x <= '9' || x == '.' || x == '-' || x == '_' || x == '/'
}

func TestKeyLengths(t *testing.T) {
	for n, want := range map[int]bool{0: false, 1: true, 2: true, 39: true, 40: true, 41: false, 42: false, 80: false, 256: false, 296: false, 1 << 20: false} {
		if Key(ks(n)) != want {
			t.Errorf("P5.1: Key of %d bytes: %t", n, !want)
		}
	}
}

func TestKeyBytes(t *testing.T) {
	for k := range 256 {
		x := byte(k)
		s := string([]byte{x})
		for _, key := range []string{s, s + "b", "a" + s, "a" + s + "b", ks(39) + s, s + ks(39), ks(20) + s + ks(19), s + s} {
			if Key(key) != inKey(x) {
				t.Errorf("P5.1: Key %q: %t", key, !inKey(x))
			}
		}
		if Key(ks(40)+s) || Key(s+ks(40)) {
			t.Errorf("P5.1: Key of 41 bytes, %q among them", s)
		}
	}
}

func TestKeyWords(t *testing.T) {
	for _, s := range []string{"a", "z", "0", "9", ".", "..", "-", "_", "/", "//", "/a/", "a/b.c-d_9", "abcdefghijklmnopqrstuvwxyz", "0123456789.-_/"} {
		if !Key(s) {
			t.Errorf("P5.1: Key %q: false", s)
		}
	}
	for _, s := range []string{"A", "Key", "a b", " a", "a ", "a\n", "\x00", "é", "ä", "ﬁ", "٣", "a\x80", "\xff", "a~", "a+b", "a,b", "a:b", "a`", "a{", "a@", "a^", "a\\b", all()} {
		if Key(s) {
			t.Errorf("P5.1: Key %q: true", s)
		}
	}
}

func TestMakeAndHome(t *testing.T) {
	for node := 1; node <= 5; node++ {
		for _, n := range []int64{1, 2, 7, 65536, 1<<31 - 1, 1 << 31, base - 2, base - 1} {
			req := Make(node, n)
			if want := int64(node)*4294967296 + n; req != want {
				t.Errorf("P5.1: Make(%d, %d): %d, not %d", node, n, req, want)
			}
			homes(t, req, node)
		}
		homes(t, int64(node)*base, 0)
		homes(t, int64(node)*base-1, node-1)
		homes(t, int64(node)*base+base, 0)
	}
}

func homes(t *testing.T, req int64, node int) {
	t.Helper()
	if got := Home(req); got != node {
		t.Errorf("P5.1: Home(%d): %d, not %d", req, got, node)
	}
}

func TestMakeOfNone(t *testing.T) {
	nodes := []int{math.MinInt, -1 << 32, -5, -2, -1, 0, 6, 7, 100, 1 << 31, 1 << 32, 1<<32 + 1, math.MaxInt}
	ns := []int64{math.MinInt64, -base - 1, -base, 1 - base, -2, -1, 0, base, base + 1, 2 * base, 2*base + 1, math.MaxInt64}
	for _, node := range nodes {
		for _, n := range append([]int64{1, 5, base - 1}, ns...) {
			if req := Make(node, n); req != 0 {
				t.Errorf("P5.1: Make(%d, %d): %d", node, n, req)
			}
		}
	}
	for node := 1; node <= 5; node++ {
		for _, n := range ns {
			if req := Make(node, n); req != 0 {
				t.Errorf("P5.1: Make(%d, %d): %d", node, n, req)
			}
		}
	}
}

func TestHomeAtEdges(t *testing.T) {
	for _, x := range []struct {
		req  int64
		node int
	}{
		{0, 0}, {1, 0}, {5, 0}, {base - 1, 0}, {base, 0}, {base + 1, 1}, {base + 2, 1}, {2*base - 2, 1}, {2*base - 1, 1},
		{2 * base, 0}, {2*base + 1, 2}, {3*base - 1, 2}, {3 * base, 0}, {3*base + 1, 3}, {4*base - 1, 3}, {4 * base, 0},
		{4*base + 1, 4}, {5*base - 1, 4}, {5 * base, 0}, {5*base + 1, 5}, {6*base - 1, 5}, {6 * base, 0}, {6*base + 1, 0},
		{7 * base, 0}, {7*base + 7, 0}, {1 << 40, 0}, {1<<40 + 1, 0}, {math.MaxInt64, 0}, {math.MaxInt64 - 1, 0},
		{-1, 0}, {-5, 0}, {1 - base, 0}, {-base, 0}, {-base - 1, 0}, {-2*base - 1, 0}, {-5*base - 7, 0}, {-6*base + 1, 0},
		{math.MinInt64, 0}, {math.MinInt64 + 1, 0}, {math.MinInt64 + base + 1, 0},
	} {
		homes(t, x.req, x.node)
	}
}

func TestTagWrittenOut(t *testing.T) {
	for body, want := range map[string]string{"": "00000001", "a": "005d0003", "ab": "016b01da"} {
		if got := Tag(body); got != want {
			t.Errorf("P5.1: Tag of %q: %s, not %s", body, got, want)
		}
	}
}

// digits is the mark of s, reckoned by ints.
func digits(s string) string {
	a, b := 0, 1
	for _, x := range []byte(s) {
		a, b = (3*a+(65521-5)*b+int(x)+1)%65521, (5*a+3*b)%65521
	}
	return fmt.Sprintf("%04x%04x", a, b)
}

func TestTag(t *testing.T) {
	bodies := []string{"v", "body", "é€", "\x00", "\x00\x00", "\xff", all(), ks(299), ks(300), ks(301), strings.Repeat("\xff", 300), ks(1 << 17)}
	for k := range 256 {
		bodies = append(bodies, string([]byte{byte(k)}), string([]byte{'x', byte(k), 'y'}))
	}
	for _, body := range bodies {
		if got := Tag(body); got != digits(body) {
			t.Errorf("P5.1: Tag of %.20q: %s, not %s", body, got, digits(body))
		}
		d := put("k", body)
		d.Cond, d.Tag = api.CMatch, Tag(body)
		if May(d) != (len(body) <= 300) {
			t.Errorf("P5.1: May of a deed with the Tag of %.20q", body)
		}
	}
}

// put is an unconditional deed, which may be where the key and the body may.
func put(key, body string) api.Deed {
	return api.Deed{Kind: api.DPut, Key: key, Body: body, Req: base + 7}
}

// three are deeds of each kind.
func three() []api.Deed {
	return []api.Deed{
		{Kind: 1, Key: "a/key", Body: "a body", Cond: 2, Tag: "0123abcd", Req: 2*base + 9, Low: 2*base + 3},
		{Kind: 2, Key: "a/key", Req: 2*base + 9, Low: 2*base + 3},
		{Kind: 3, Key: "a/key", Ver: 5, Req: 2*base + 9, Low: 2*base + 3},
	}
}

// turned is a deed with one field at something else.
type turned struct {
	what string
	set  func(d *api.Deed)
	// may tells of each kind, in order, whether the deed that three has may be so.
	may [3]bool
}

var each, none, puts = [3]bool{true, true, true}, [3]bool{}, [3]bool{true}

func kinds() []turned {
	l := []turned{}
	for _, k := range []int{math.MinInt, -1, 0, 4, 5, 256 + 1, 1<<32 + 1, 1<<32 + 2, math.MaxInt} {
		l = append(l, turned{fmt.Sprint("Kind ", k), func(d *api.Deed) { d.Kind = k }, none})
	}
	return l
}

func keysAndBodies() []turned {
	l := []turned{}
	for key, may := range map[string][3]bool{"": none, "k": each, "-": each, ks(40): each, ks(41): none, "K": none, "a key": none, "k\xff": none} {
		l = append(l, turned{fmt.Sprintf("Key %q", key), func(d *api.Deed) { d.Key = key }, may})
	}
	for body, may := range map[string][3]bool{"": each, "x": puts, "\x00": puts, all(): puts, ks(299): puts, ks(300): puts, ks(301): none, strings.Repeat("\xff", 300): puts, strings.Repeat("é", 151): none, ks(1 << 20): none} {
		l = append(l, turned{fmt.Sprintf("Body %.20q, %d bytes", body, len(body)), func(d *api.Deed) { d.Body = body }, may})
	}
	return l
}

func versions() []turned {
	unlike := [3]bool{true, true, false}
	purges := [3]bool{false, false, true}
	l := []turned{}
	for ver, may := range map[int64][3]bool{0: unlike, 1: purges, 2: purges, 12: purges, 1<<40 - 1: purges, 1 << 40: purges, 1<<40 + 1: none, math.MaxInt64: none, -1: none, -1 << 40: none, math.MinInt64: none} {
		l = append(l, turned{fmt.Sprint("Ver ", ver), func(d *api.Deed) { d.Ver = ver }, may})
	}
	return l
}

// conditions are conditions with each tag, and tags with none.
func conditions() []turned {
	tags := map[string]bool{"": false, "00000000": true, "00000001": true, "0123abcd": true, "fff0fff0": true, "fff10000": false, "0000fff1": false, "ffffffff": false, "0123abc": false, "0123abcde": false, "0123ABCD": false, "0123abcg": false, "0x23abcd": false, "+123abcd": false, "01_3abcd": false, " 123abcd": false, "0123abc\n": false, ks(1 << 10): false}
	l := []turned{}
	for tag, read := range tags {
		for _, cond := range []int{math.MinInt, -2, -1, 0, 1, 2, 3, 4, 256, 257, 258, 1 << 32, 1<<32 + 1, 1<<32 + 2, math.MaxInt} {
			may := none
			switch {
			case cond == 0 && tag == "":
				may = each
			case cond == 1 && tag == "", cond == 2 && read:
				may = puts
			}
			l = append(l, turned{fmt.Sprintf("Cond %d, Tag %.20q", cond, tag), func(d *api.Deed) { d.Cond, d.Tag = cond, tag }, may})
		}
	}
	return l
}

func requests() []turned {
	l := []turned{}
	for req, may := range map[int64][3]bool{0: none, 1: none, base - 1: none, base: none, base + 1: each, 2*base - 1: each, 2 * base: none, 2*base + 1: each, 5*base + 1: each, 6*base - 1: each, 6 * base: none, 6*base + 1: none, 1 << 40: none, math.MaxInt64: none, -1: none, -base - 1: none, math.MinInt64: none} {
		l = append(l, turned{fmt.Sprint("Req ", req, ", no Low"), func(d *api.Deed) { d.Req, d.Low = req, 0 }, may})
	}
	for low, may := range map[int64][3]bool{math.MinInt64: none, -base: none, -1: none, 0: each, 1: each, base: each, base + 1: each, 2 * base: each, 2*base + 8: each, 2*base + 9: each, 2*base + 10: none, 3*base + 1: none, 1 << 40: none, math.MaxInt64: none} {
		l = append(l, turned{fmt.Sprint("Low ", low), func(d *api.Deed) { d.Low = low }, may})
	}
	for _, req := range []int64{base + 1, 3 * base / 2, 6*base - 1} {
		for more, may := range map[int64][3]bool{-1: each, 0: each, 1: none} {
			l = append(l, turned{fmt.Sprint("Req ", req, ", Low ", more, " more"), func(d *api.Deed) { d.Req, d.Low = req, req+more }, may})
		}
	}
	return l
}

func TestMayOfThree(t *testing.T) {
	for _, d := range three() {
		if !May(d) {
			t.Errorf("P5.1: May of %+v: false", d)
		}
	}
	if May(api.Deed{}) {
		t.Error("P5.1: May of the zero deed: true")
	}
}

func TestMayFieldByField(t *testing.T) {
	for _, l := range [][]turned{kinds(), keysAndBodies(), versions(), conditions(), requests()} {
		for _, x := range l {
			for k, d := range three() {
				x.set(&d)
				if May(d) != x.may[k] {
					t.Errorf("P5.1: May of the kind %d with %s: %t", k+1, x.what, !x.may[k])
				}
			}
		}
	}
}

// The chapter's words once more: by patterns, and by what each kind has beside the zero deed.
var (
	keyPattern = regexp.MustCompile(`\A[a-z0-9._/-]{1,40}\z`)
	tagPattern = regexp.MustCompile(`\A([0-9a-e][0-9a-f]{3}|f[0-9a-e][0-9a-f]{2}|ff[0-9a-e][0-9a-f]|fff0){2}\z`)
)

// allowed is a second reckoning of May.
func allowed(d api.Deed) bool {
	rest := api.Deed{Kind: d.Kind, Key: d.Key, Req: d.Req, Low: d.Low}
	switch d.Kind {
	case 1:
		rest.Body, rest.Cond = d.Body, d.Cond
		if d.Cond == 2 {
			rest.Tag = d.Tag
		}
		if len(d.Body) > 300 || d.Cond < 0 || d.Cond > 2 || d.Cond == 2 && !tagPattern.MatchString(d.Tag) {
			return false
		}
	case 2:
	case 3:
		rest.Ver = d.Ver
		if d.Ver <= 0 || d.Ver > 1099511627776 {
			return false
		}
	default:
		return false
	}
	home := false
	for node := range int64(5) {
		home = home || (node+1)*base < d.Req && d.Req < (node+2)*base
	}
	return d == rest && home && keyPattern.MatchString(d.Key) && d.Low >= 0 && d.Low <= d.Req
}

// mixed goes through deeds with all fields at some of their edges and beyond, all with all.
func mixed(yield func(api.Deed) bool) {
	for _, key := range []string{"", "k", ks(40), ks(41), "K"} {
		for _, body := range []string{"", "x", ks(300), ks(301)} {
			for _, ver := range []int64{-1, 0, 1, 1 << 40, 1<<40 + 1} {
				for _, req := range []int64{-base - 1, 0, base - 1, base, base + 1, 6*base - 1, 6 * base} {
					for _, low := range []int64{-1, 0, req, req + 1} {
						if !ofKinds(api.Deed{Key: key, Body: body, Ver: ver, Req: req, Low: low}, yield) {
							return
						}
					}
				}
			}
		}
	}
}

func ofKinds(d api.Deed, yield func(api.Deed) bool) bool {
	for kind := range 6 {
		for cond := range 5 {
			for _, tag := range []string{"", "00000000", "fff0fff0", "fff10000", "0000000"} {
				d.Kind, d.Cond, d.Tag = kind-1, cond-1, tag
				if !yield(d) {
					return false
				}
			}
		}
	}
	return true
}

func TestMayOfMixedFields(t *testing.T) {
	n := 0
	for d := range mixed {
		want := allowed(d)
		if want {
			n++
		}
		if May(d) != want {
			t.Fatalf("P5.1: May of %+v: %t", d, !want)
		}
		if !want && (Put(d) != "" || !zero(Value(d))) {
			t.Fatalf("P5.1: Value, Put of %+v, which may not be", d)
		}
		if want {
			back(t, d)
		}
	}
	if n == 0 {
		t.Error("none of them may be")
	}
}
