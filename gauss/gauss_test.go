package gauss

import (
	"bytes"
	"math"
	"strings"
	"testing"

	"armarium/api"
)

const p = api.Prime

// at is the number of the parts a and b; the tests reckon by int64, the package by complex128.
func at(a, b int64) complex128 { return complex(float64(a), float64(b)) }

func modulo(x int64) int64 { return (x%p + p) % p }

// same asks that got is want, and that no part of it is -0, which is not 'from 0 on'.
func same(t *testing.T, what string, got, want complex128) {
	t.Helper()
	if got != want || math.Signbit(real(got)) || math.Signbit(imag(got)) {
		t.Errorf("%s: %v, not %v", what, got, want)
	}
}

// edges are parts that may be.
func edges() []int64 {
	return []int64{0, 1, 2, 3, 5, 255, 256, 32760, 32761, 65519, 65520}
}

// strange are parts that may not be, nor does Mod take them.
func strange() []float64 {
	return []float64{0.5, -0.5, 65519.5, 65520.5, math.SmallestNonzeroFloat64, math.Nextafter(1, 2), 1<<50 + 1, -1<<50 - 1,
		1<<50 - 0.5, 1<<50 + 0.5, 1 << 53, -1 << 63, 1 << 64, math.MaxFloat64, -math.MaxFloat64, math.Inf(1), math.Inf(-1), math.NaN()}
}

// wrong are numbers that may not be: one part of each is at fault, or both are.
func wrong() []complex128 {
	l := []complex128{}
	for _, x := range append(strange(), -1, -65521, 65521, 65522, 131042, 1<<50, -1<<50) {
		l = append(l, complex(x, 0), complex(0, x), complex(x, 65520), complex(65520, x), complex(x, x))
	}
	return l
}

func TestMay(t *testing.T) {
	for _, a := range edges() {
		for _, b := range edges() {
			if !May(at(a, b)) {
				t.Errorf("P1.1: May(%d, %d)", a, b)
			}
		}
	}
	for _, z := range wrong() {
		if May(z) {
			t.Errorf("P1.1: May(%v)", z)
		}
	}
}

func TestMod(t *testing.T) {
	l := []int64{0, 1, -1, p - 1, p, p + 1, -p, 1 - p, -p - 1, 1 << 50, -1 << 50, 1<<50 - 1, 1 - 1<<50}
	for _, k := range []int64{2, 3, 1000, 65520, 65521, 1 << 33, 1<<50/p - 1, 1 << 50 / p} {
		for x := k*p - 2; x <= k*p+2; x++ {
			l = append(l, x, -x)
		}
	}
	for _, a := range l {
		for _, b := range l {
			same(t, "P1.1: Mod", Mod(at(a, b)), at(modulo(a), modulo(b)))
		}
	}
	minus := math.Copysign(0, -1)
	same(t, "P1.1: Mod of -0", Mod(complex(minus, minus)), 0)
	same(t, "P1.1: Mod of -0", Mod(complex(minus, -1)), at(0, p-1))
	same(t, "P1.1: Mod of -0", Mod(complex(-1, minus)), at(p-1, 0))
}

func TestModOfNone(t *testing.T) {
	for _, x := range strange() {
		for _, z := range []complex128{complex(x, 0), complex(0, x), complex(x, 7), complex(7, x), complex(x, x)} {
			same(t, "P1.1: Mod of what it does not take", Mod(z), 0)
		}
	}
}

func TestAddAndMul(t *testing.T) {
	for _, a := range edges() {
		for _, b := range edges() {
			for _, c := range edges() {
				for _, d := range edges() {
					same(t, "P1.1: Add", Add(at(a, b), at(c, d)), at((a+c)%p, (b+d)%p))
					same(t, "P1.1: Mul", Mul(at(a, b), at(c, d)), at(modulo(a*c-b*d), modulo(a*d+b*c)))
				}
			}
		}
	}
}

func TestAddAndMulOfWrong(t *testing.T) {
	for _, z := range wrong() {
		for _, a := range []complex128{0, 1, 1i, at(p-1, p-1), z} {
			same(t, "P1.1: Add of a wrong one", Add(z, a), 0)
			same(t, "P1.1: Add of a wrong one", Add(a, z), 0)
			same(t, "P1.1: Mul of a wrong one", Mul(z, a), 0)
			same(t, "P1.1: Mul of a wrong one", Mul(a, z), 0)
		}
	}
}

func TestPow(t *testing.T) {
	for _, a := range edges() {
		for _, b := range edges() {
			want := complex128(1)
			for n := range 70 {
				same(t, "P1.1: Pow", Pow(at(a, b), n), want)
				want = Mul(want, at(a, b))
			}
		}
	}
}

// Of an a that has an inverse the powers come again after p-1 of them, since p is one above a multiple of 4.
func TestPowOfManyTimes(t *testing.T) {
	for _, a := range []complex128{2, 3 + 5i, at(p-1, 7)} {
		for _, n := range []int{p - 2, p - 1, p, 1 << 31, 1<<32 + 1, 1 << 62, math.MaxInt - 1, math.MaxInt} {
			want := complex128(1)
			for range n % (p - 1) {
				want = Mul(want, a)
			}
			same(t, "P1.1: Pow of many times", Pow(a, n), want)
		}
	}
	for _, n := range []int{p - 1, 2 * (p - 1), 1 << 62, math.MaxInt} {
		same(t, "P1.1: Pow of 0, many times", Pow(0, n), 0)
	}
}

func TestPowOfWrong(t *testing.T) {
	for _, n := range []int{-1, -2, -p, math.MinInt + 1, math.MinInt} {
		for _, a := range []complex128{0, 1, 3 + 5i, at(p, 0)} {
			same(t, "P1.1: Pow below 0 times", Pow(a, n), 0)
		}
	}
	for _, z := range wrong() {
		for _, n := range []int{0, 1, 2, math.MaxInt} {
			same(t, "P1.1: Pow of a wrong one", Pow(z, n), 0)
		}
	}
}

// reckon is On by int64.
func reckon(a, b int64, s []byte) complex128 {
	for _, x := range s {
		a, b = modulo(3*a-5*b+int64(x)+1), modulo(5*a+3*b)
	}
	return at(a, b)
}

// rows are lists of bytes: all of one, and longer ones.
func rows() [][]byte {
	l := [][]byte{nil, {}, {0, 0}, {255, 255, 255}, []byte("two rows"), []byte("two rowt"), bytes.Repeat([]byte{255}, 5000)}
	for x := range 256 {
		l = append(l, []byte{byte(x)})
	}
	long := []byte{}
	for k := range 3000 {
		long = append(long, byte(k*k/7))
	}
	return append(l, long)
}

func TestMarkAndOn(t *testing.T) {
	for _, s := range rows() {
		same(t, "P1.2: Mark", Mark(s), reckon(0, 1, s))
		for _, a := range edges() {
			same(t, "P1.2: On", On(at(a, 7), s), reckon(a, 7, s))
			same(t, "P1.2: On", On(at(7, a), s), reckon(7, a, s))
		}
	}
	same(t, "P1.2: Mark of no bytes", Mark(nil), 1i)
	same(t, "P1.2: Mark of no bytes", Mark([]byte{}), 1i)
	same(t, "P1.2: On no bytes", On(at(p-1, 0), nil), at(p-1, 0))
	same(t, "P1.2: Mark of a byte 0", Mark([]byte{0}), at(p-4, 3))
	same(t, "P1.2: Mark of a byte 255", Mark([]byte{255}), 251+3i)
}

func TestOnByParts(t *testing.T) {
	s := []byte("what is marked at once, or piece by piece\x00\xff")
	for k := range len(s) + 1 {
		same(t, "P1.2: On", On(Mark(s[:k]), s[k:]), Mark(s))
	}
}

func TestOnOfWrong(t *testing.T) {
	for _, z := range wrong() {
		for _, s := range []string{"", "a", "of many bytes"} {
			same(t, "P1.2: On of a wrong one", On(z, []byte(s)), 0)
		}
	}
}

func TestBytesStay(t *testing.T) {
	room := []byte("ahead, the bytes, and spare room")
	was := string(room)
	s := room[7:16]
	first := Mark(s)
	On(first, s)
	if string(room) != was {
		t.Errorf("P0.3: the bytes are now %q", room)
	}
	s[0]++
	if Mark(s) == first {
		t.Error("P0.3: the mark of bytes that were handed in earlier")
	}
	s[0]--
	same(t, "P0.5: Mark of the same bytes", Mark(s), first)
}

func TestTextAndRead(t *testing.T) {
	for s, z := range map[string]complex128{"00000000": 0, "00000001": 1i, "00010000": 1, "000f0010": 15 + 16i, "00ff0100": 255 + 256i,
		"fff00000": p - 1, "0000fff0": at(0, p-1), "fff0fff0": at(p-1, p-1), "abcdef01": at(0xabcd, 0xef01), "98765432": at(0x9876, 0x5432)} {
		if got := Text(z); got != s {
			t.Errorf("P1.2: Text(%v): %q, not %q", z, got, s)
		}
		got, ok := Read(s)
		same(t, "P1.2: Read "+s, got, z)
		if !ok {
			t.Errorf("P1.2: Read(%q): false", s)
		}
	}
}

func TestTextOfEach(t *testing.T) {
	for a := range int64(p) {
		z := at(a, p-1-a)
		if got, ok := Read(Text(z)); got != z || !ok || len(Text(z)) != 8 {
			t.Fatalf("P1.2: Read of %q: %v, %v", Text(z), got, ok)
		}
	}
}

func TestTextOfWrong(t *testing.T) {
	for _, z := range wrong() {
		if s := Text(z); s != "" {
			t.Errorf("P1.2: Text(%v): %q", z, s)
		}
	}
}

// none asks that s is not a number's text.
func none(t *testing.T, s string) {
	t.Helper()
	if z, ok := Read(s); z != 0 || ok {
		t.Errorf("P1.2: Read(%.40q): %v, %v", s, z, ok)
	}
}

func TestReadOfWrong(t *testing.T) {
	for _, s := range []string{"fff10000", "0000fff1", "fff1fff1", "ffff0000", "0000ffff", "ffffffff", "0000000A", "ABCDEF01", "Fff0fff0",
		"+0000000", "-0000000", "-0000001", "0x000000", "0X0000ff", "0_0_0_00", " 0000000", "0000000 ", "0000\n000", "0000000.", "0000.000",
		"1e000000p", "éééé", "00000é0", "\xff\xff\xff\xff\xff\xff\xff\xff", "\x00\x00\x00\x00\x00\x00\x00\x00"} {
		none(t, s)
	}
	for n := range 40 {
		if n != 8 {
			none(t, strings.Repeat("0", n))
			none(t, strings.Repeat("1", n))
		}
	}
	none(t, strings.Repeat("f", 1<<20))
	none(t, "00070009"+strings.Repeat("0", 8))
}

func TestReadOfEachByte(t *testing.T) {
	for x := range 256 {
		for k := range 8 {
			s := []byte("00000000")
			s[k] = byte(x)
			want := int64(strings.IndexByte("0123456789abcdef", byte(x)))
			if want < 0 {
				none(t, string(s))
				continue
			}
			unit := int64(1) << (4 * (3 - k%4))
			z := at(want*unit, 0)
			if k > 3 {
				z = at(0, want*unit)
			}
			if got, ok := Read(string(s)); got != z || !ok {
				t.Errorf("P1.2: Read(%q): %v, %v", s, got, ok)
			}
		}
	}
}
