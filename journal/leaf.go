package journal

import (
	"armarium/api"
	"armarium/gauss"
	"armarium/pouch"
)

const (
	// mostText is how many bytes the text of a leaf has at most.
	mostText = 400000
	// noughts are the digits of the least mark, as many as every mark has.
	noughts = "00000000"
)

// Leaf is the leaf of s, "" where s is too long for one.
func Leaf(s string) string {
	if len(s) > mostText {
		return ""
	}
	return mark(s) + pouch.Put(pouch.Value{Kind: pouch.Str, S: s})
}

// mark is the mark of s's bytes, in digits.
func mark(s string) string { return gauss.Text(gauss.Mark([]byte(s))) }

// Turn is what the leaf at s's beginning has, and how many bytes it takes.
func Turn(s string) (string, int, api.Errno) {
	if !marked(s) {
		return "", 0, api.ErrCorrupt
	}
	if len(s) < len(noughts) {
		return "", 0, api.ErrMore
	}
	digits, rest := s[:len(noughts)], s[len(noughts):]
	v, n, err := pouch.Get(rest)
	if err == api.ErrMore {
		return "", 0, api.ErrMore
	}
	if err != api.OK || v.Kind != pouch.Str || mark(v.S) != digits {
		return "", 0, api.ErrCorrupt
	}
	return v.S, len(digits) + n, api.OK
}

// marked tells whether some mark's digits begin s, as far as s goes. Where s has too few of them, noughts behind it
// make the least mark that begins so: if that may not be, none may.
func marked(s string) bool {
	digits := s[:min(len(s), len(noughts))]
	_, ok := gauss.Read(digits + noughts[len(digits):])
	return ok
}

// turnAll is what all whole leaves at s's beginning have, and how many bytes they take. A torn end behind them is no
// fault; one that is spoilt is ErrCorrupt.
func turnAll(s string) ([]string, int, api.Errno) {
	l, n := []string{}, 0
	for n < len(s) {
		text, k, err := Turn(s[n:])
		if err == api.ErrMore {
			break
		}
		if err != api.OK {
			return nil, 0, err
		}
		l, n = append(l, text), n+k
	}
	return l, n, api.OK
}
