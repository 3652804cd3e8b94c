package journal

import (
	"fmt"
	"regexp"
	"strconv"
	"strings"
	"testing"

	"armarium/api"
)

// digitsOf is the mark of s in digits, reckoned by ints.
func digitsOf(s string) string {
	a, b := 0, 1
	for _, x := range []byte(s) {
		a, b = (3*a+(api.Prime-5)*b+int(x)+1)%api.Prime, (5*a+3*b)%api.Prime
	}
	return fmt.Sprintf("%04x%04x", a, b)
}

// leafOf is the leaf of s, written out, however long s is.
func leafOf(s string) string { return digitsOf(s) + strconv.Itoa(len(s)) + ":" + s + "," }

// short are texts of which each byte may be looked at.
func short() []string {
	all := make([]byte, 256)
	for k := range all {
		all[k] = byte(k)
	}
	return []string{"", "a", "ab", "5", "-1", "12", "0", "\x00", "\xff\xfe", "é€", ",", "]", "#", ":", "0:,", "1:a,", "1:5#", "0:]", "3:0:,]",
		"00000001", leafOf(""), leafOf("a"), leafOf("a") + leafOf("b"), "nine byte", "ten bytes!", strings.Repeat("x", 99), strings.Repeat(",", 100), string(all)}
}

// xs is a text of n bytes.
func xs(n int) string { return strings.Repeat("x", n) }

// turns asks what Turn answers.
func turns(t *testing.T, what, s, text string, n int, err api.Errno) {
	t.Helper()
	if got, k, told := Turn(s); got != text || k != n || told != err {
		t.Errorf("P4.1, words: Turn %s (%.40q): %.40q, %d bytes, error %d, not %.40q, %d bytes, error %d", what, s, got, k, told, text, n, err)
	}
}

func TestLeafWrittenOut(t *testing.T) {
	for _, x := range []struct{ s, want string }{
		{"", "000000010:,"}, {"a", "005d00031:a,"}, {"ab", "016b01da2:ab,"},
	} {
		if got := Leaf(x.s); got != x.want {
			t.Errorf("P4.1, words: Leaf of %q: %q, not %q", x.s, got, x.want)
		}
	}
	for _, s := range append(short(), xs(9999), xs(10000), xs(399999), xs(400000)) {
		if got := Leaf(s); got != leafOf(s) {
			t.Errorf("P4.1, words: Leaf of %.20q: %.40q, not %.40q", s, got, leafOf(s))
		}
	}
}

func TestLeafOfMore(t *testing.T) {
	for _, n := range []int{400001, 400002, 500000, 1 << 20, 9999999, 10000000} {
		if got := Leaf(xs(n)); got != "" {
			t.Errorf("P4.1, words: Leaf of %d bytes: %d bytes", n, len(got))
		}
	}
}

func TestTurnOfLeaf(t *testing.T) {
	for _, s := range append(short(), xs(399999), xs(400000)) {
		l := leafOf(s)
		for _, behind := range []string{"", "x", "0", ",", "\x00", "\xff", "0:,", "fff1", l, leafOf("another one"), l[:len(l)-1]} {
			turns(t, "of a leaf", l+behind, s, len(l), api.OK)
		}
	}
}

func TestTurnOfBeginnings(t *testing.T) {
	for _, s := range short() {
		l := leafOf(s)
		for n := range l {
			turns(t, "of a beginning", l[:n], "", 0, api.ErrMore)
		}
	}
	l := leafOf(xs(400000))
	for _, n := range []int{0, 7, 8, 9, 13, 14, 15, 16, 1000, 399999, 400000, 400014, 400015} {
		turns(t, "of a long leaf's beginning", l[:n], "", 0, api.ErrMore)
	}
}

// The mark is not asked until there is all of the text.
func TestTurnOfBeginningsWithAnotherMark(t *testing.T) {
	l := "12345678" + leafOf("some text")[8:]
	for n := range l {
		turns(t, "of a beginning with another mark", l[:n], "", 0, api.ErrMore)
	}
	turns(t, "of a leaf with another mark", l, "", 0, api.ErrCorrupt)
}

// A text that is too long for a leaf: as pouch.Get tells.
func TestTurnOfGreaterLength(t *testing.T) {
	for _, n := range []int{400001, 500000} {
		l := leafOf(xs(n))
		turns(t, "of a greater length", l, xs(n), len(l), api.OK)
		turns(t, "of a greater length, and more", l+l, xs(n), len(l), api.OK)
		turns(t, "of a greater length, not whole", l[:len(l)-1], "", 0, api.ErrMore)
		turns(t, "of a greater length, another mark", "00000001"+l[8:], "", 0, api.ErrCorrupt)
		turns(t, "of a greater length, another end", l[:len(l)-1]+"#", "", 0, api.ErrCorrupt)
	}
	turns(t, "of a greater length ahead", "00000001400001:", "", 0, api.ErrMore)
	turns(t, "of the greatest length ahead", "000000019999999:", "", 0, api.ErrMore)
	turns(t, "of what is too long for pouch", "0000000110000000:", "", 0, api.ErrCorrupt)
}

func TestTurnOfNoMark(t *testing.T) {
	leaf := leafOf("a")
	for _, s := range []string{"fff1", "fff10000", "fffffff0", "ffff", "0000fff1", "0000ffff", "fff0fff1", "FFF0", "005D0003", "005d000g", "g", "-", "+", " ", "0x", "005d 003", "005d000 ", "00_0", "٣", "\x00", "\xff", "0000000\n", leaf[1:], " " + leaf, "x" + leaf} {
		for _, behind := range []string{"", "0000", "1:a,", "0:,", leaf, "x"} {
			turns(t, "of a mark that is none", s+behind, "", 0, api.ErrCorrupt)
		}
	}
	for _, s := range []string{"f", "ff", "fff", "fff0", "fff0f", "fff0fff", "fff0fff0", "0000fff0", "9", "a", "0000000", "00000000"} {
		turns(t, "of a mark's beginning", s, "", 0, api.ErrMore)
	}
}

func TestTurnOfOtherValues(t *testing.T) {
	for _, x := range []struct{ text, end string }{{"5", "#"}, {"-12", "#"}, {"", "]"}, {"0:,", "]"}, {"1:5#", "]"}, {"x", "#"}, {"x", "]"}, {"x", "x"}, {"5", ":"}, {"", "#"}, {"05", "#"}} {
		s := digitsOf(x.text) + strconv.Itoa(len(x.text)) + ":" + x.text + x.end
		turns(t, "of what is no text", s, "", 0, api.ErrCorrupt)
		turns(t, "of what is no text, and more", s+leafOf(""), "", 0, api.ErrCorrupt)
		turns(t, "of what is no text yet", s[:len(s)-1], "", 0, api.ErrMore)
	}
}

var (
	ahead = regexp.MustCompile(`^(0|[1-9][0-9]{0,6}):`)
	early = regexp.MustCompile(`^(0|[1-9][0-9]{0,6})?$`)
	digit = regexp.MustCompile(`^[0-9a-f]*$`)
)

// tells is Turn, reckoned in another way.
func tells(s string) (string, int, api.Errno) {
	for k := 0; k < 8; k += 4 {
		part := s[min(k, len(s)):min(k+4, len(s))]
		if !digit.MatchString(part) || part > "fff0"[:len(part)] {
			return "", 0, api.ErrCorrupt
		}
	}
	if len(s) < 8 || early.MatchString(s[8:]) {
		return "", 0, api.ErrMore
	}
	m := ahead.FindStringSubmatch(s[8:])
	if m == nil {
		return "", 0, api.ErrCorrupt
	}
	n, _ := strconv.Atoi(m[1])
	from := 8 + len(m[0])
	if len(s) <= from+n {
		return "", 0, api.ErrMore
	}
	if text := s[from : from+n]; s[from+n] == ',' && digitsOf(text) == s[:8] {
		return text, from + n + 1, api.OK
	}
	return "", 0, api.ErrCorrupt
}

func agrees(t *testing.T, s string) {
	t.Helper()
	text, n, err := tells(s)
	turns(t, "of any bytes", s, text, n, err)
}

// Each byte of a leaf turned into each other one: nothing but its length may make it look torn, and nothing whole.
func TestTurnOfChangedBytes(t *testing.T) {
	for _, s := range short() {
		b := []byte(leafOf(s))
		colon := 8 + len(strconv.Itoa(len(s)))
		for k := range b {
			was := b[k]
			for x := range 256 {
				if b[k] = byte(x); b[k] == was {
					continue
				}
				text, n, err := Turn(string(b))
				if text != "" || n != 0 || err != api.ErrCorrupt && (err != api.ErrMore || k < 8 || k > colon) {
					t.Errorf("P4.1, words: Turn of %.40q: %.20q, %d bytes, error %d", b, text, n, err)
				}
				if len(b) < 40 {
					agrees(t, string(b))
				}
			}
			b[k] = was
		}
	}
}

// all hands each text of at most n of these letters to use.
func all(letters string, n int, use func(string)) {
	use("")
	for k := 0; n > 0 && k < len(letters); k++ {
		all(letters, n-1, func(s string) { use(letters[k:k+1] + s) })
	}
}

func TestTurnOfAnyBytes(t *testing.T) {
	all("01fg", 8, func(s string) { agrees(t, s) })
	for _, text := range []string{"", "0", "1", "01", ",", "a"} {
		all("012:,#]a", 5, func(s string) { agrees(t, digitsOf(text)+s) })
	}
}
