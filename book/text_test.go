package book_test

import (
	"fmt"
	"math"
	"slices"
	"strconv"
	"strings"
	"testing"

	"armarium/api"
	"armarium/book"
	"armarium/pouch"
)

// back asks that s, which may be, has a text, and is read again from it.
func back(t *testing.T, what string, s api.State) string {
	t.Helper()
	text := book.Put(s)
	if got, err := book.Read(text); err != api.OK || !same(got, s) || text == "" {
		t.Errorf("P7.1: Read of Put, %s: error %d, %s", what, err, short(got))
	}
	if book.Put(clone(s)) != text {
		t.Errorf("P7.1: Put, %s: another text of the same book", what)
	}
	return text
}

// noBook asks that text is no book's.
func noBook(t *testing.T, what, text string) {
	t.Helper()
	if got, err := book.Read(text); err != api.ErrForm || !same(got, api.State{}) {
		t.Errorf("P7.1: Read, %s: error %d, %s", what, err, short(got))
	}
}

// judged asks that text is just that of the book that is read from it, or no book's.
func judged(t *testing.T, what, text string) bool {
	t.Helper()
	got, err := book.Read(text)
	if err != api.OK {
		noBook(t, what, text)
		return false
	}
	if !allowed(got) || book.Put(got) != text {
		t.Errorf("P7.1: Read, %s: a book that has another text: %s", what, short(got))
	}
	return true
}

func TestThereAndBack(t *testing.T) {
	known := map[string]kase{}
	for _, x := range cases() {
		if !x.may {
			if text := book.Put(x.s); text != "" {
				t.Errorf("P7.1: Put, %s: %.80q", x.what, text)
			}
			continue
		}
		text := back(t, x.what, x.s)
		if y, ok := known[text]; ok && !same(x.s, y.s) {
			t.Errorf("P7.1: Put, %s: the text of %s", x.what, y.what)
		}
		known[text] = x
	}
	if len(known) < 100 {
		t.Errorf("%d texts alone", len(known))
	}
}

func TestThereAndBackOfParts(t *testing.T) {
	known := map[string]string{}
	for _, x := range parts() {
		s := some()
		x.set(&s)
		if !allowed(s) {
			if text := book.Put(s); text != "" {
				t.Errorf("P7.1: Put, %s: %.80q", x.what, text)
			}
			continue
		}
		text := back(t, x.what, s)
		if other, ok := known[text]; ok {
			t.Errorf("P7.1: Put, %s: the text of %s", x.what, other)
		}
		known[text] = x.what
	}
}

func TestThereAndBackOfBodies(t *testing.T) {
	bodies := []string{"", " ", "\n", "0", "#", ",", "]", "5:hello,", "\xff\xfe", "é€", all(), xs(255), xs(256), xs(299), xs(300), strings.Repeat("\xff", 300), strings.Repeat("]", 300)}
	for k := range 256 {
		bodies = append(bodies, string([]byte{byte(k)}), string([]byte{'a', byte(k), 'b'}))
	}
	for _, body := range bodies {
		s := some()
		s.L[1].Vs[1].Body = body
		back(t, fmt.Sprintf("the body %.40q", body), s)
	}
}

func TestReadOfNilAndEmpty(t *testing.T) {
	text := book.Put(api.State{Seq: 5})
	if book.Put(api.State{Seq: 5, L: []api.Entry{}, Memos: some().Memos[:0]}) != text {
		t.Error("P0.4: Put of nil lists and of empty ones")
	}
}

// little is a small book with something of everything, so that much can be done to its text.
func little() api.State {
	return api.State{
		Seq:   12,
		L:     []api.Entry{entry("a", there(2, "one"), gone(5)), entry("b/c", there(10, ""), there(12, "]x,"))},
		Memos: []api.Memo{memo(req(1, 4), 0, 2), memo(req(1, 9), 9, 0), memo(req(4, 7), 13, 12)},
		Lows:  [5]int64{req(1, 4), 0, req(3, 8)},
	}
}

func TestReadOfTurnedBytes(t *testing.T) {
	for _, s := range []api.State{little(), {}, {Seq: top}, {Seq: 3, L: many(1).L}} {
		text := book.Put(s)
		for k := range text {
			for x := range 256 {
				if byte(x) != text[k] {
					judged(t, fmt.Sprintf("the byte %d is %d", k, x), text[:k]+string([]byte{byte(x)})+text[k+1:])
				}
			}
		}
	}
}

func TestReadOfPieces(t *testing.T) {
	for _, s := range []api.State{little(), some(), {}, {Seq: 1}, many(40)} {
		text := book.Put(s)
		for k := range text {
			noBook(t, fmt.Sprint("the first bytes, ", k), text[:k])
			judged(t, fmt.Sprint("without the first bytes, ", k+1), text[k+1:])
			judged(t, fmt.Sprint("without the byte ", k), text[:k]+text[k+1:])
			judged(t, fmt.Sprint("twice the byte ", k), text[:k+1]+text[k:])
			judged(t, fmt.Sprint("two bytes the other way round at ", k), text[:k]+text[k+1:min(k+2, len(text))]+text[k:k+1]+text[min(k+2, len(text)):])
		}
	}
	text := book.Put(greatest())
	for k := 0; k < len(text); k += 997 {
		noBook(t, fmt.Sprint("the first bytes of the greatest, ", k), text[:k])
	}
}

func TestReadWithSomethingBehind(t *testing.T) {
	for _, s := range []api.State{little(), some(), {}, greatest()} {
		text := book.Put(s)
		for k := range 256 {
			x := string([]byte{byte(k)})
			judged(t, fmt.Sprintf("%q behind it", x), text+x)
			judged(t, fmt.Sprintf("%q ahead of it", x), x+text)
		}
		for _, x := range []string{"0:,", "1:0#", "0:]", text, text[:len(text)-1], text[1:], xs(1 << 16)} {
			judged(t, fmt.Sprintf("%.20q behind it", x), text+x)
			judged(t, fmt.Sprintf("%.20q ahead of it", x), x+text)
		}
	}
}

func TestReadOfOtherTexts(t *testing.T) {
	for _, text := range []string{
		"", "x", "0", ":", "0:,", "0:]", "1:0#", "1:5#", "4:0:]]", "12:0:]0:]0:]0:]]", "8:1:0#1:0#]", "16:1:0#0:]0:]0:]0:]]",
		"9999999:", "99999999999999999999:", "-1:", all(), xs(1 << 20), strings.Repeat("0:]", 1000), strings.Repeat("]", 1000), "null", "{}",
	} {
		judged(t, fmt.Sprintf("%.40q", text), text)
	}
	noBook(t, "no byte", "")
	noBook(t, "many letters", xs(1<<20))
}

// The tests below take a text apart as a value of pouch. Of a text that is none they would tell nothing.

// turned hands on v with each of its parts once in each of some other ways.
func turned(v pouch.Value, yield func(pouch.Value)) {
	others(v, yield)
	for k, x := range v.L {
		turned(x, func(y pouch.Value) {
			l := slices.Clone(v.L)
			l[k] = y
			yield(pouch.Value{Kind: v.Kind, L: l})
		})
	}
}

// others hands on what else could stand in the place of v.
func others(v pouch.Value, yield func(pouch.Value)) {
	for _, x := range []pouch.Value{num(0), str(""), list(), list(v), list(v, v), str(pouch.Put(v)), num(v.N + 1), num(v.N - 1), num(-v.N)} {
		yield(x)
	}
	switch v.Kind {
	case pouch.Num:
		for _, n := range []int64{math.MinInt64, -1, 1, 2, 13, 14, top, top + 1, base, req(1, 4), req(2, 4), req(5, base-1), v.N + base, v.N + 256, v.N + 1<<56, math.MaxInt64} {
			yield(num(n))
		}
		yield(str(strconv.FormatInt(v.N, 10)))
	case pouch.Str:
		for _, s := range []string{"x", v.S + "x", "x" + v.S, strings.ToUpper(v.S), v.S + " ", v.S + "\x00", xs(40), xs(41), xs(300), xs(301), "a", "b", "b/c", "z"} {
			yield(str(s))
		}
	case pouch.List:
		otherLists(v.L, yield)
	}
}

// otherLists hands on lists of a part too few, a part too many, and of parts in another order.
func otherLists(l []pouch.Value, yield func(pouch.Value)) {
	for k := range l {
		yield(list(slices.Concat(l[:k], l[k+1:])...))
		yield(list(l[:k]...))
		for n := range k {
			x := slices.Clone(l)
			x[k], x[n] = x[n], x[k]
			yield(list(x...))
		}
	}
	for k := range len(l) + 1 {
		for _, more := range slices.Concat(l, []pouch.Value{num(0), num(1), str(""), list(), list(l...)}) {
			yield(list(slices.Concat(l[:k], []pouch.Value{more}, l[k:])...))
		}
	}
	yield(list(slices.Repeat(l, 2)...))
	yield(list(slices.Repeat(l, 41)...))
}

func num(n int64) pouch.Value { return pouch.Value{Kind: pouch.Num, N: n} }

func str(s string) pouch.Value { return pouch.Value{Kind: pouch.Str, S: s} }

func list(l ...pouch.Value) pouch.Value { return pouch.Value{Kind: pouch.List, L: l} }

func TestReadOfTurnedParts(t *testing.T) {
	for _, s := range []api.State{little(), {}, {Seq: 7, Memos: asked(3, 2)}, many(2), many(40)} {
		v, err := pouch.All(book.Put(s))
		if err != api.OK {
			t.Skip("the text is not a value")
		}
		books, texts := 0, 0
		turned(v, func(x pouch.Value) {
			if text := pouch.Put(x); text != "" {
				texts++
				if judged(t, fmt.Sprintf("%.400q", text), text) {
					books++
				}
			}
		})
		if books == 0 || books == texts {
			t.Errorf("%d of %d texts are books'", books, texts)
		}
	}
}

// written is s in bytes, whether it may be or not.
func written(s api.State) string {
	entries, memos, lows := []pouch.Value{}, []pouch.Value{}, []pouch.Value{}
	for _, e := range s.L {
		vs := []pouch.Value{}
		for _, v := range e.Vs {
			vs = append(vs, list(num(v.Ver), num(map[bool]int64{true: 1}[v.Gone]), str(v.Body)))
		}
		entries = append(entries, list(str(e.Key), list(vs...)))
	}
	for _, m := range s.Memos {
		memos = append(memos, list(num(m.Req), num(int64(m.Res.Err)), num(m.Res.Ver)))
	}
	for _, low := range s.Lows {
		lows = append(lows, num(low))
	}
	return pouch.Put(list(num(s.Seq), list(entries...), list(memos...), list(lows...)))
}

func TestReadOfBooksThatMayNotBe(t *testing.T) {
	if written(little()) != book.Put(little()) {
		t.Skip("the text is written in another way")
	}
	for _, x := range cases() {
		text := written(x.s)
		if !x.may {
			noBook(t, x.what, text)
		} else if book.Put(x.s) != text {
			t.Errorf("P7.1: Put, %s: another text", x.what)
		}
	}
	for _, x := range parts() {
		s := some()
		x.set(&s)
		if got, err := book.Read(written(s)); (err == api.OK) != allowed(s) || err == api.OK && !same(got, s) {
			t.Errorf("P7.1: Read, %s: error %d", x.what, err)
		}
	}
}
