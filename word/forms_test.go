package word_test

import (
	"fmt"
	"slices"
	"strconv"
	"strings"
	"testing"

	"armarium/api"
	"armarium/deed"
	"armarium/gauss"
	"armarium/word"
)

// The tests below write texts that look right: a value with the right mark ahead of it. They know of how a word is
// written, and are to be written anew with that.

// piece is a value, which need not be one of pouch: its length, its text, its end.
type piece struct {
	ahead string // of its length
	text  string
	l     []piece // the text, where it has pieces
	end   string
}

func (p piece) String() string {
	text := p.text
	for _, x := range p.l {
		text += x.String()
	}
	return p.ahead + strconv.Itoa(len(text)) + ":" + text + p.end
}

func num[T int | int64 | api.Errno](n T) piece { return piece{text: fmt.Sprintf("%d", n), end: "#"} }

func str(s string) piece { return piece{text: s, end: ","} }

func list(l ...piece) piece { return piece{l: l, end: "]"} }

// marked is a text with its mark.
func marked(s string) string { return deed.Tag(s) + s }

// pieces are those of w, whether it may be or not.
func pieces(w api.Word) piece {
	chain := []piece{num(w.Roster.Epoch), num(w.Roster.New)}
	for _, n := range w.Roster.L {
		chain = append(chain, num(n))
	}
	deeds := []piece{}
	for _, d := range w.Deeds {
		deeds = append(deeds, list(num(d.Kind), str(d.Key), str(d.Body), num(d.Ver), num(d.Cond), str(d.Tag), num(d.Req), num(d.Low)))
	}
	book := piece{l: []piece{bookPiece(w.State)}, end: ","}
	return list(num(w.Kind), num(w.From), num(w.To), num(w.Epoch), num(w.Seq), num(w.Req), num(w.Until), num(w.Res.Err), num(w.Res.Ver), list(chain...), list(deeds...), book)
}

func bookPiece(s api.State) piece {
	entries, memos, lows := []piece{}, []piece{}, []piece{}
	for _, e := range s.L {
		vs := []piece{}
		for _, v := range e.Vs {
			vs = append(vs, list(num(v.Ver), num(map[bool]int{true: 1}[v.Gone]), str(v.Body)))
		}
		entries = append(entries, list(str(e.Key), list(vs...)))
	}
	for _, m := range s.Memos {
		memos = append(memos, list(num(m.Req), num(m.Res.Err), num(m.Res.Ver)))
	}
	for _, low := range s.Lows {
		lows = append(lows, num(low))
	}
	return list(num(s.Seq), list(entries...), list(memos...), list(lows...))
}

// written is w in bytes, whether it may be or not.
func written(w api.Word) string { return marked(pieces(w).String()) }

func TestWritten(t *testing.T) {
	for _, w := range append(told(), some(), greatest()) {
		if s := word.Put(w); s != written(w) {
			t.Fatalf("the tests of this file write words in another way: %.300q, not %.300q", written(w), s)
		}
	}
}

// Words that may not be, each for one reason alone, and such as may.
func TestGetOfWordsThatMayNotBe(t *testing.T) {
	for _, x := range turns() {
		if w := x.word(); !x.may {
			noWord(t, x.what, written(w))
		} else if got, err := word.Get(written(w)); err != api.OK || !same(got, w) {
			t.Errorf("P11.1: Get, %s: error %d, %s", x.what, err, short(got))
		}
	}
	noWord(t, "the zero word", written(api.Word{}))
	for kind := 0; kind <= 12; kind++ {
		for from := -1; from <= 6; from++ {
			for to := -1; to <= 6; to++ {
				if w := bare(kind, from, to); judged(t, "a bare word", written(w)) != word.May(w) {
					t.Errorf("P11.1: Get of a bare word: not %t: %s", word.May(w), short(w))
				}
			}
		}
	}
	for _, more := range []func(w *api.Word){
		func(w *api.Word) { w.Deeds = append(w.Deeds, w.Deeds[0]) }, func(w *api.Word) { w.Deeds[59].Body += "x" }, func(w *api.Word) { w.State.L[39].Vs[11].Body += "x" },
		func(w *api.Word) { w.State.L = append(w.State.L, entry(strings.Repeat("z", 39)+"z", gone(1))) }, func(w *api.Word) { w.Until++ }, func(w *api.Word) { w.Kind++ },
		func(w *api.Word) { w.State.Memos = append(w.State.Memos, memo(req(5, base-1), 0, 0)) },
		func(w *api.Word) { w.Deeds = slices.Repeat(w.Deeds, 11) }, func(w *api.Word) { w.State.L = slices.Repeat(w.State.L, 3) },
	} {
		w := greatest()
		more(&w)
		noWord(t, "more than the greatest", written(w))
	}
}

// others hands on what else could stand in the place of p.
func others(p piece, yield func(piece)) {
	for _, x := range []piece{num(0), num(1), num(-1), str(""), list(), list(p), list(p, p), str(p.String()), {}, {end: p.end}, {text: p.text, l: p.l}, {ahead: "0", text: p.text, l: p.l, end: p.end}, {ahead: "+", text: p.text, l: p.l, end: p.end}, {ahead: " ", text: p.text, l: p.l, end: p.end}} {
		yield(x)
	}
	for _, end := range []string{"#", ",", "]", "", "x", p.end + p.end} {
		if end != p.end {
			yield(piece{text: p.text, l: p.l, end: end})
		}
	}
	if len(p.l) > 0 || p.end == "]" {
		otherLists(p, yield)
		return
	}
	for _, text := range otherTexts(p.text) {
		yield(piece{text: text, end: p.end})
	}
}

// otherTexts are other writings of a number, other numbers, and other texts.
func otherTexts(s string) []string {
	l := []string{"", " ", "x", "-", "+", "-0", "00", "0x1", "1e1", "1.0", "one", "1_0", "\x00", s + "x", "x" + s, s + s, s + "\x00", strings.ToUpper(s) + "A"}
	for _, ahead := range []string{"0", "+", "-", " ", "00", "+0", "0x", "٣"} {
		l = append(l, ahead+s)
	}
	for _, behind := range []string{"0", " ", ".0", ".", "e0", "#", "\n"} {
		l = append(l, s+behind)
	}
	for _, n := range []int64{-1 << 63, -top, -base, -1, 1, 2, 3, 5, 6, 11, 12, 13, 14, base, base + 1, req(1, 5), req(5, 2), req(6, 1), top - 1, top, top + 1, 1<<63 - 1} {
		l = append(l, strconv.FormatInt(n, 10))
	}
	l = append(l, "9223372036854775808", "-9223372036854775809", "18446744073709551616", "18446744073709551617", "340282366920938463463374607431768211457", strings.Repeat("9", 400))
	if n, err := strconv.ParseInt(s, 10, 64); err == nil {
		for _, more := range []int64{-1, 1, 256, 1 << 16, base, 1 << 40, 1 << 56, -1 << 63} {
			l = append(l, strconv.FormatInt(n+more, 10))
		}
		l = append(l, strconv.FormatInt(-n, 10), strconv.FormatUint(1<<63+uint64(n), 10))
	}
	return slices.DeleteFunc(l, func(x string) bool { return x == s })
}

// otherLists hands on lists of a part too few, of one too many, and of parts in another order.
func otherLists(p piece, yield func(piece)) {
	give := func(l ...piece) { yield(piece{l: l, end: p.end}) }
	for k := range p.l {
		give(slices.Concat(p.l[:k], p.l[k+1:])...)
		give(p.l[:k]...)
		for n := range k {
			x := slices.Clone(p.l)
			x[k], x[n] = x[n], x[k]
			give(x...)
		}
	}
	for k := range len(p.l) + 1 {
		for _, more := range slices.Concat(p.l, []piece{num(0), num(1), str(""), list(), list(p.l...)}) {
			give(slices.Concat(p.l[:k], []piece{more}, p.l[k:])...)
		}
	}
	give(slices.Repeat(p.l, 2)...)
	give(slices.Repeat(p.l, 61)...)
}

// turned hands on p with each of its pieces once in each of some other ways.
func turned(p piece, yield func(piece)) {
	others(p, yield)
	for k, x := range p.l {
		turned(x, func(y piece) {
			l := slices.Clone(p.l)
			l[k] = y
			yield(piece{l: l, end: p.end})
		})
	}
}

func TestGetOfTurnedPieces(t *testing.T) {
	t.Parallel()
	count := map[bool]int{}
	for _, w := range []api.Word{told()[1], told()[2], told()[6], some()} {
		whole := pieces(w)
		turned(whole, func(p piece) {
			if s := p.String(); s != whole.String() {
				count[judged(t, "a piece turned", marked(s))]++
			}
		})
	}
	if count[true] < 1000 || count[false] < 10000 {
		t.Errorf("so many are words', or not: %v", count)
	}
}

// Numbers with something ahead or behind are none, wherever they stand; nor is a text of other parts than a word's.
func TestGetOfOtherWritings(t *testing.T) {
	whole := pieces(some())
	each(whole, func(p piece, in func(piece) piece) {
		if p.end == "#" {
			for _, text := range []string{"0" + p.text, "+" + p.text, "-0" + p.text, " " + p.text, p.text + " ", p.text + ".0", "", "-", "x", "9223372036854775808", "99999999999999999999"} {
				noWord(t, "no number", marked(in(piece{text: text, end: "#"}).String()))
			}
			noWord(t, "a number as a text", marked(in(str(p.text)).String()))
			noWord(t, "a number as a list", marked(in(list(p)).String()))
		}
		for _, ahead := range []string{"0", "00", "+", "-", " "} {
			noWord(t, "no length", marked(in(piece{ahead: ahead, text: p.text, l: p.l, end: p.end}).String()))
		}
	})
	for k := range whole.l {
		l := whole.l
		noWord(t, "a part missing", marked(list(slices.Concat(l[:k], l[k+1:])...).String()))
		noWord(t, "parts missing", marked(list(l[:k]...).String()))
		for _, more := range []piece{l[k], num(0), str(""), list(), pieces(api.Word{}), whole} {
			noWord(t, "a part too many", marked(list(slices.Concat(l[:k], []piece{more}, l[k:])...).String()))
			noWord(t, "a part too many, behind", marked(list(slices.Concat(l, []piece{more})...).String()))
		}
	}
	noWord(t, "a list of a word", marked(list(whole).String()))
	noWord(t, "a text of a word", marked(str(whole.String()).String()))
	noWord(t, "a word's parts as a text", marked(piece{l: whole.l, end: ","}.String()))
	noWord(t, "a word's parts as a number", marked(piece{l: whole.l, end: "#"}.String()))
	noWord(t, "a text in place of a word", marked(strings.TrimSuffix(whole.String(), "]")))
}

// each hands on each piece of p, and what puts another one in its place.
func each(p piece, yield func(piece, func(piece) piece)) {
	yield(p, func(x piece) piece { return x })
	for k, x := range p.l {
		each(x, func(y piece, in func(piece) piece) {
			yield(y, func(z piece) piece {
				l := slices.Clone(p.l)
				l[k] = in(z)
				return piece{l: l, end: p.end}
			})
		})
	}
}

// Other marks ahead of a text that is right.
func TestGetOfOtherMarks(t *testing.T) {
	for _, s := range spoilable() {
		mark, text := s[:8], s[8:]
		for _, other := range []string{
			"", "00000000", "00000001", "ffffffff", "fff0fff0", mark[4:] + mark[:4], strings.ToUpper(mark) + "A", mark + mark, mark[:7], mark[1:], "0" + mark, mark + "0", " " + mark, mark[:4] + " " + mark[4:], "0x" + mark[2:],
			deed.Tag(""), deed.Tag(s), deed.Tag(text[1:]), deed.Tag(text[:len(text)-1]), deed.Tag(text + "x"), deed.Tag(mark), gauss.Text(gauss.On(0, []byte(text))), gauss.Text(gauss.On(1, []byte(text))), xs(8),
		} {
			if other != mark {
				noWord(t, fmt.Sprintf("the mark %q", other), other+text)
			}
		}
		if upper := strings.ToUpper(mark); upper != mark {
			noWord(t, "a mark of capital letters", upper+text)
		}
		noWord(t, "the mark behind", text+mark)
		noWord(t, "marked twice", marked(s))
		for k := range 7 {
			other := []byte(mark)
			other[k], other[k+1] = other[k+1], other[k]
			if string(other) != mark {
				noWord(t, "digits of a mark the other way round", string(other)+text)
			}
		}
	}
}

// A mark's part that is Prime more is the same number modulo Prime, but it is no mark's.
func TestGetOfMarksAbovePrime(t *testing.T) {
	n := 0
	for k := range int64(20000) {
		w := bare(6, 1, 2)
		w.Epoch = k
		s := word.Put(w)
		for at := 0; at < 8; at += 4 {
			if x, err := strconv.ParseUint(s[at:at+4], 16, 16); err == nil && x+api.Prime < 1<<16 {
				noWord(t, "a mark above Prime", s[:at]+strconv.FormatUint(x+api.Prime, 16)+s[at+4:])
				n++
			}
		}
	}
	if n == 0 {
		t.Error("there is no such mark")
	}
}

// A value that is nearly too deep, too long, or has nearly too many parts.
func TestGetOfDeepAndLongValues(t *testing.T) {
	deep := num(1)
	for n := range 1000 {
		deep = list(deep)
		for k := range 12 {
			if n < 12 || n == 999 {
				x := slices.Clone(pieces(some()).l)
				x[k] = deep
				noWord(t, "a deep part", marked(list(x...).String()))
			}
		}
	}
	for k := range 12 {
		for _, n := range []int{100, 5900, 6000} {
			x := slices.Clone(pieces(some()).l)
			x[k] = piece{text: strings.Repeat("1:1#", n), end: "]"}
			noWord(t, "a long part", marked(list(x...).String()))
			x[k] = piece{text: strings.Repeat("0:]", n), end: "]"}
			noWord(t, "a long part", marked(list(x...).String()))
			x[k] = str(xs(n))
			noWord(t, "a long text", marked(list(x...).String()))
		}
	}
}
