// Package gauss marks bytes by whole complex numbers modulo Prime: see doc/01-gauss.md.
package gauss

import (
	"math"
	"strconv"

	"armarium/api"
)

// reach is how far from 0 a part may be for Mod to take it.
const reach = 1 << 50

// whole tells whether both parts of z are whole, from low to high. (NaN is not: no comparison holds of it.)
func whole(z complex128, low, high float64) bool {
	a, b := real(z), imag(z)
	return low <= a && a <= high && math.Floor(a) == a &&
		low <= b && b <= high && math.Floor(b) == b
}

// May tells whether z is a number that this package reckons with.
func May(z complex128) bool { return whole(z, 0, api.Prime-1) }

// rest is x modulo Prime, from 0 on, of a whole x within reach. It is exact: there the rounding of the quotient,
// at most 2^-19, is less than 1/Prime, so that the quotient does not come to another whole number.
func rest(x float64) float64 { return x - api.Prime*math.Floor(x/api.Prime) }

// Mod is z with each part modulo Prime.
func Mod(z complex128) complex128 {
	if !whole(z, -reach, reach) {
		return 0
	}
	return complex(rest(real(z)), rest(imag(z)))
}

// Add is the sum of a and b modulo Prime.
func Add(a, b complex128) complex128 {
	if !May(a) || !May(b) {
		return 0
	}
	return Mod(a + b)
}

// Mul is the product of a and b modulo Prime. (Its parts are below 2^33 ahead of Mod: nothing is rounded.)
func Mul(a, b complex128) complex128 {
	if !May(a) || !May(b) {
		return 0
	}
	return Mod(a * b)
}

// Pow is 1 times a, n times. It goes by squares, since n may be huge.
func Pow(a complex128, n int) complex128 {
	if n < 0 || !May(a) {
		return 0
	}
	power := complex128(1)
	for ; n > 0; n /= 2 {
		if n%2 == 1 {
			power = Mul(power, a)
		}
		a = Mul(a, a)
	}
	return power
}

// Mark is the mark of b.
func Mark(b []byte) complex128 { return On(1i, b) }

// On is the mark of what has the mark z with b behind it.
func On(z complex128, b []byte) complex128 {
	if !May(z) {
		return 0
	}
	for _, x := range b {
		z = Add(Mul(z, 3+5i), complex(float64(x)+1, 0))
	}
	return z
}

// Text is z as eight digits, "" where z may not be.
func Text(z complex128) string {
	if !May(z) {
		return ""
	}
	return four(real(z)) + four(imag(z))
}

// four is a part as four digits of base 16.
func four(x float64) string {
	s := strconv.FormatInt(int64(x), 16)
	return "0000"[len(s):] + s
}

// Read is the number whose Text is s.
func Read(s string) (complex128, bool) {
	if len(s) != 8 {
		return 0, false
	}
	n, err := strconv.ParseUint(s, 16, 32)
	if err != nil {
		return 0, false
	}
	z := complex(float64(n>>16), float64(n&0xffff))
	// Capital digits and parts above Prime-1 were read as well, but no Text has them.
	if Text(z) != s {
		return 0, false
	}
	return z, true
}
