package word_test

import (
	"fmt"
	"strings"
	"testing"

	"armarium/api"
	"armarium/word"
)

// noWord asks that s is no word's.
func noWord(t *testing.T, what, s string) {
	t.Helper()
	if w, err := word.Get(s); err != api.ErrForm || !same(w, api.Word{}) {
		t.Errorf("P11.1: Get, %s: error %d, %s of %.300q", what, err, short(w), s)
	}
}

// judged asks that s is just Put of the word that is got from it, or no word's, and tells which of the two it is.
func judged(t *testing.T, what, s string) bool {
	t.Helper()
	w, err := word.Get(s)
	if err != api.OK {
		noWord(t, what, s)
		return false
	}
	if !word.May(w) || word.Put(w) != s {
		t.Errorf("P11.1: Get, %s: a word that has another text than %.300q: %s", what, s, short(w))
	}
	return true
}

// spoilable are the texts of some words, with something of everything, none of them long.
func spoilable() []string {
	l := []string{}
	book := api.State{Seq: 7, L: []api.Entry{entry("a", there(2, "x"), gone(7))}, Memos: []api.Memo{memo(req(4, 7), 12, 6)}, Lows: [5]int64{0, req(2, 9)}}
	for _, w := range []api.Word{
		bare(1, 3, 0), {Kind: 2, To: 5, Roster: of(4, 5, 1, 2, 5), Until: 17}, {Kind: 4, From: 1, To: 2, Epoch: 4, Seq: 9, Deeds: some().Deeds[:1]}, {Kind: 7, From: 5, To: 1, Epoch: 4, Req: req(1, 3), Res: api.Result{Err: 9}},
		{Kind: 10, From: 2, To: 5, Epoch: 4, State: book, Seq: 9, Deeds: []api.Deed{del("a", req(5, 1)), purge("a", 2, req(5, 2))}},
	} {
		l = append(l, word.Put(w))
	}
	return append(l, word.Put(some()))
}

func TestGetOfNothing(t *testing.T) {
	noWord(t, "no byte", "")
	for x := range 256 {
		noWord(t, "a byte", string([]byte{byte(x)}))
		noWord(t, "eight bytes", strings.Repeat(string([]byte{byte(x)}), 8))
		noWord(t, "many bytes", strings.Repeat(string([]byte{byte(x)}), 300))
	}
}

// No text of a word is like another one's but for a byte.
func TestGetOfTurnedBytes(t *testing.T) {
	t.Parallel()
	for k, s := range spoilable() {
		t.Run(fmt.Sprint("the word ", k), func(t *testing.T) {
			t.Parallel()
			for at := range s {
				for x := range 256 {
					if byte(x) != s[at] {
						noWord(t, fmt.Sprintf("the byte %d is %d", at, x), s[:at]+string([]byte{byte(x)})+s[at+1:])
					}
				}
			}
		})
	}
}

func TestGetOfTurnedBytesOfTheGreatest(t *testing.T) {
	t.Parallel()
	s := word.Put(greatest())
	for at := 0; at < len(s); at += 1 + at/8 {
		for _, turn := range []byte{1, 255} {
			b := []byte(s)
			b[at] ^= turn
			noWord(t, fmt.Sprintf("the greatest, the byte %d turned by %d", at, turn), string(b))
		}
		noWord(t, fmt.Sprintf("the greatest, up to %d", at), s[:at])
		noWord(t, fmt.Sprintf("the greatest, from %d on", at+1), s[at+1:])
	}
	noWord(t, "the greatest, but for a byte", s[:len(s)-1])
	noWord(t, "the greatest, and a byte", s+"]")
	noWord(t, "the greatest twice", s+s)
}

// A number's digit turned gives another word that may be, and another text that would be right but for what guards it.
func TestGetOfTurnedDigits(t *testing.T) {
	t.Parallel()
	for n := range int64(150) {
		w := bare(6, 1, 2)
		w.Seq = n * n * n
		s := word.Put(w)
		for at := range s {
			if '0' <= s[at] && s[at] <= '9' {
				for x := byte('0'); x <= '9'; x++ {
					if x != s[at] {
						noWord(t, fmt.Sprintf("Seq %d, the digit %d is %c", n, at, x), s[:at]+string([]byte{x})+s[at+1:])
					}
				}
			}
		}
	}
}

func TestGetOfPieces(t *testing.T) {
	for k, s := range spoilable() {
		for at := range s {
			noWord(t, fmt.Sprintf("the word %d, up to %d", k, at), s[:at])
			noWord(t, fmt.Sprintf("the word %d, from %d on", k, at+1), s[at+1:])
			judged(t, fmt.Sprintf("the word %d, without the byte %d", k, at), s[:at]+s[at+1:])
			judged(t, fmt.Sprintf("the word %d, the byte %d twice", k, at), s[:at+1]+s[at:])
		}
		for from := range s {
			for to := from + 2; to <= len(s); to += 1 + len(s)/40 {
				judged(t, fmt.Sprintf("the word %d, without the bytes %d up to %d", k, from, to), s[:from]+s[to:])
			}
		}
	}
}

func TestGetWithSomethingMore(t *testing.T) {
	for k, s := range spoilable() {
		for x := range 256 {
			one := string([]byte{byte(x)})
			noWord(t, fmt.Sprintf("the word %d, %q behind it", k, one), s+one)
			noWord(t, fmt.Sprintf("the word %d, %q ahead of it", k, one), one+s)
		}
		for _, more := range []string{"0:,", "1:0#", "0:]", s, s[:len(s)-1], s[8:], s[:8], "00000000", "00000001", xs(1 << 16)} {
			noWord(t, fmt.Sprintf("the word %d, %.20q behind it", k, more), s+more)
			noWord(t, fmt.Sprintf("the word %d, %.20q ahead of it", k, more), more+s)
		}
	}
}

func TestGetWithAByteBetween(t *testing.T) {
	t.Parallel()
	for k, s := range spoilable() {
		t.Run(fmt.Sprint("the word ", k), func(t *testing.T) {
			t.Parallel()
			for at := range s {
				for x := range 256 {
					judged(t, fmt.Sprintf("%d put in at %d", x, at), s[:at]+string([]byte{byte(x)})+s[at:])
				}
			}
		})
	}
}

func TestGetOfBytesChangedForOthers(t *testing.T) {
	t.Parallel()
	for k, s := range spoilable() {
		t.Run(fmt.Sprint("the word ", k), func(t *testing.T) {
			t.Parallel()
			for at := range s {
				for other := range at {
					if s[at] != s[other] {
						b := []byte(s)
						b[at], b[other] = b[other], b[at]
						judged(t, fmt.Sprintf("the bytes %d and %d the other way round", other, at), string(b))
					}
				}
			}
		})
	}
}

// Pieces of one word's text ahead of pieces of another one's.
func TestGetOfPiecesOfTwo(t *testing.T) {
	l := spoilable()
	for k, a := range l {
		for n, b := range l {
			for at := range min(len(a), len(b)) {
				judged(t, fmt.Sprintf("the words %d and %d, cut at %d", k, n, at), a[:at]+b[at:])
				judged(t, fmt.Sprintf("the words %d and %d, cut at %d from behind", k, n, at), a[:len(a)-at]+b[len(b)-at:])
			}
		}
	}
}

func TestGetOfOtherTexts(t *testing.T) {
	for _, s := range []string{
		"x", "0", ":", "0:,", "0:]", "1:0#", "1:5#", "00000000", "000000000:]", "000000000:,", "000000001:0#", "9999999:", "000000009999999:", "99999999999999999999:", "-1:", all(), xs(1 << 20),
		strings.Repeat("0:]", 100000), strings.Repeat("]", 1<<22), strings.Repeat("9:", 1<<20), strings.Repeat("\x00", 1<<22), "null", "{}", "P11.1",
	} {
		noWord(t, "another text", s)
		noWord(t, "another text with its mark", marked(s))
	}
}

// What is told hangs on the text alone.
func TestGetAgain(t *testing.T) {
	for k, s := range spoilable() {
		first, _ := word.Get(s)
		noWord(t, "a byte less", s[1:])
		if again, err := word.Get(strings.Clone(s)); err != api.OK || !same(first, again) {
			t.Errorf("P0.5: Get of the word %d once more: error %d, %s", k, err, short(again))
		}
	}
}
