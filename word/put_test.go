package word_test

import (
	"fmt"
	"slices"
	"strings"
	"testing"

	"armarium/api"
	"armarium/word"
)

// back asks that w, which may be, has a text, and is got again from it.
func back(t *testing.T, what string, w api.Word) string {
	t.Helper()
	s := word.Put(w)
	if s == "" || word.Put(clone(w)) != s {
		t.Errorf("P11.1: Put, %s: %.80q, then another text: %s", what, s, short(w))
	}
	if got, err := word.Get(s); err != api.OK || !same(got, w) {
		t.Errorf("P11.1: Get of Put, %s: error %d, %s, not %s", what, err, short(got), short(w))
	}
	return s
}

// texts are those of words; no two words have one.
type texts map[string]string

func (l texts) add(t *testing.T, what string, w api.Word) {
	t.Helper()
	s := back(t, what, w)
	if other, ok := l[s]; ok && other != fmt.Sprintf("%+q", fmt.Sprintf("%+v", plain(w))) {
		t.Errorf("P11.1: Put, %s: the text of %.700s, too", what, other)
	}
	l[s] = fmt.Sprintf("%+q", fmt.Sprintf("%+v", plain(w)))
}

func TestThereAndBack(t *testing.T) {
	l := texts{}
	l.add(t, "some", some())
	l.add(t, "the greatest", greatest())
	for _, w := range told() {
		l.add(t, "as it is said", w)
	}
	for kind := 1; kind <= 11; kind++ {
		for from := range 6 {
			for to := range 6 {
				if from != to {
					l.add(t, "a bare word", bare(kind, from, to))
				}
			}
		}
	}
	n := len(l)
	if want := 2 + 11 + 11*30; n != want {
		t.Errorf("P11.1: Put: %d texts of %d words", n, want)
	}
}

func TestThereAndBackOfTurns(t *testing.T) {
	l, n := texts{}, 0
	for _, x := range turns() {
		w := x.word()
		if !x.may {
			if s := word.Put(w); s != "" {
				t.Errorf("P11.1: Put, %s: %.80q", x.what, s)
			}
			continue
		}
		l.add(t, x.what, w)
		n++
	}
	if len(l) != n || n < 100 {
		t.Errorf("P11.1: Put: %d texts of %d words", len(l), n)
	}
}

// Each part of each kind of words at its bounds, beside others at the same bounds, and at the other ones.
func TestThereAndBackOfBounds(t *testing.T) {
	l, n := texts{}, 0
	for kind := 1; kind <= 11; kind++ {
		low, high := bare(kind, 0, 1), greatest()
		high.Kind = kind
		// The texts of long words are long in coming.
		high.Deeds, high.State.L, high.State.Memos = high.Deeds[:2], high.State.L[:2], high.State.Memos[:2]
		l.add(t, "lowest", low)
		l.add(t, "highest", high)
		n += 2
		for _, move := range movers()[1:] {
			for _, x := range [][2]api.Word{{low, high}, {high, low}} {
				if w := move(x[0], x[1]); w.From != w.To {
					l.add(t, "all but a part lowest, or highest", w)
					n++
				}
			}
		}
		for _, x := range turns()[len(kindTurns()):] {
			if w := x.word(); x.may && kind != 7 {
				w.Kind = kind
				l.add(t, fmt.Sprint("Kind ", kind, ", ", x.what), w)
				n++
			}
		}
	}
	if len(l) != n {
		t.Errorf("P11.1: Put: %d texts of %d words", len(l), n)
	}
}

func TestThereAndBackOfTheGreatest(t *testing.T) {
	w := greatest()
	s := back(t, "the greatest", w)
	if len(s) < 40*12*300+60*300 {
		t.Errorf("P11.1: Put of the greatest word has %d bytes", len(s))
	}
	l := texts{s: ""}
	for k, set := range []func(w *api.Word){
		func(w *api.Word) { w.Deeds[59].Body = xs(299) + "y" }, func(w *api.Word) { w.Deeds[59].Body = xs(299) },
		func(w *api.Word) { w.State.L[39].Vs[11].Body = xs(299) + "y" }, func(w *api.Word) { w.State.L[0].Vs[0].Body = xs(299) },
		func(w *api.Word) { w.State.Memos[99].Res.Err = 12 }, func(w *api.Word) { w.State.Memos[99].Res.Ver-- }, func(w *api.Word) { w.State.Lows[4]-- },
		func(w *api.Word) { w.Deeds = w.Deeds[:59] }, func(w *api.Word) { w.Deeds = w.Deeds[1:] }, func(w *api.Word) { w.State.Memos = w.State.Memos[:99] },
		func(w *api.Word) { w.State.L = w.State.L[1:] }, func(w *api.Word) { w.Roster.New = 0 },
	} {
		w := greatest()
		set(&w)
		l.add(t, fmt.Sprint("nearly the greatest, ", k), w)
	}
	if len(l) != 13 {
		t.Errorf("P11.1: Put: %d texts of 13 words", len(l))
	}
	for _, more := range []func(w *api.Word){
		func(w *api.Word) { w.Deeds = append(w.Deeds, w.Deeds[0]) }, func(w *api.Word) { w.Deeds[59].Body += "x" }, func(w *api.Word) { w.State.L[39].Vs[11].Body += "x" },
		func(w *api.Word) { w.State.L = append(w.State.L, entry(strings.Repeat("z", 39)+"z", gone(1))) },
		func(w *api.Word) { w.State.Memos = append(w.State.Memos, memo(req(5, base-1), 0, 0)) }, func(w *api.Word) { w.Epoch++ }, func(w *api.Word) { w.Kind++ },
	} {
		w := greatest()
		more(&w)
		if s := word.Put(w); s != "" {
			t.Errorf("P11.1: Put of more than the greatest word: %.80q", s)
		}
	}
}

// all is each byte once.
func all() string {
	b := make([]byte, 256)
	for k := range b {
		b[k] = byte(k)
	}
	return string(b)
}

// Bodies of any bytes, in a deed and in the book.
func TestThereAndBackOfBodies(t *testing.T) {
	bodies := []string{"", " ", "\n", "0", "#", ",", "]", ":", "0:,", "1:0#", "5:hello,", "\xff\xfe", "é€", all(), xs(300), strings.Repeat("\xff", 300), strings.Repeat("]", 300), word.Put(bare(1, 2, 0))}
	for k := range 256 {
		bodies = append(bodies, string([]byte{byte(k)}), string([]byte{'a', byte(k), 'b'}))
	}
	l, n := texts{}, 0
	for _, body := range slices.Compact(slices.Sorted(slices.Values(bodies))) {
		w, x := some(), some()
		w.Deeds[0].Body = body
		x.State.L[0].Vs[0].Body = body
		l.add(t, fmt.Sprintf("the body %.40q", body), w)
		l.add(t, fmt.Sprintf("the body %.40q in the book", body), x)
		n += 2
	}
	if len(l) != n {
		t.Errorf("P11.1: Put: %d texts of %d words", len(l), n)
	}
}

// neighbours are pairs of words of which the one has a part where the other one has another one, or cuts its lists at
// other places.
func neighbours() [][2]api.Word {
	return slices.Concat(movedNumbers(), movedTexts(), movedItems())
}

// movedNumbers have a number at one place, and at another one, and digits cut in other ways.
func movedNumbers() [][2]api.Word {
	l := [][2]api.Word{}
	places := []func(w *api.Word, n int64){
		func(w *api.Word, n int64) { w.Epoch = n }, func(w *api.Word, n int64) { w.Seq = n }, func(w *api.Word, n int64) { w.Req = n }, func(w *api.Word, n int64) { w.Until = n },
		func(w *api.Word, n int64) { w.Res.Err = api.Errno(n) }, func(w *api.Word, n int64) { w.Res.Ver = n }, func(w *api.Word, n int64) { w.State.Seq = n },
	}
	two := func(a, b func(w *api.Word, n int64), x, y int64) api.Word {
		w := bare(4, 1, 2)
		a(&w, x)
		b(&w, y)
		return w
	}
	for k, a := range places {
		for _, b := range places[:k] {
			for _, x := range [][4]int64{{5, 0, 0, 5}, {1, 12, 11, 2}, {1, 11, 11, 1}, {10, 1, 1, 10}, {1, 10, 11, 0}, {9, 13, 13, 9}} {
				l = append(l, [2]api.Word{two(a, b, x[0], x[1]), two(a, b, x[2], x[3])})
			}
		}
	}
	for n := 1; n <= 5; n++ {
		l = append(l, [2]api.Word{bare(n, 0, n), bare(n, n, 0)}, [2]api.Word{bare(n, n-1, n), bare(n, n, n-1)})
		if n != 3 {
			l = append(l, [2]api.Word{bare(n, 3, 0), bare(3, n, 0)})
		}
		if n > 1 {
			l = append(l, [2]api.Word{bare(1, n, 0), bare(n, 1, 0)})
		}
	}
	return append(l,
		[2]api.Word{bare(11, 1, 2), bare(1, 1, 2)}, [2]api.Word{bare(10, 1, 2), bare(1, 0, 1)},
		[2]api.Word{{Kind: 9, To: 1, Epoch: 10}, {Kind: 9, To: 1, Seq: 10}}, [2]api.Word{{Kind: 9, To: 1, Res: api.Result{Ver: 1}}, {Kind: 9, To: 1, Res: api.Result{Err: 1}}},
	)
}

// movedTexts have bytes in one text, and in the one behind it.
func movedTexts() [][2]api.Word {
	l := [][2]api.Word{}
	deeds := func(ds ...api.Deed) api.Word { return api.Word{Kind: 4, From: 1, To: 2, Deeds: ds} }
	books := func(es ...api.Entry) api.Word {
		return api.Word{Kind: 10, From: 1, To: 2, State: api.State{Seq: 50, L: es}}
	}
	r := req(1, 1)
	for _, x := range [][4]string{{"ab", "c", "a", "bc"}, {"a", "", "aa", ""}, {"a1", "2", "a", "12"}, {"x", "1:x", "x1", ":x"}, {"a", "b", "b", "a"}} {
		l = append(l,
			[2]api.Word{deeds(put(x[0], x[1], r)), deeds(put(x[2], x[3], r))},
			[2]api.Word{books(entry(x[0], there(3, x[1]))), books(entry(x[2], there(3, x[3])))},
			[2]api.Word{deeds(put("k", x[0], r), put("k", x[1], r)), deeds(put("k", x[2], r), put("k", x[3], r))},
			[2]api.Word{books(entry("k", there(3, x[0]), there(4, x[1]))), books(entry("k", there(3, x[2]), there(4, x[3])))},
		)
	}
	tag, body := put("k", "", r), put("k", "00000001", r)
	tag.Cond, tag.Tag = 2, "00000001"
	body.Cond, body.Tag = 2, "00000000"
	return append(l, [2]api.Word{deeds(tag), deeds(body)}, [2]api.Word{deeds(put("k", "x", r)), books(entry("k", there(3, "x")))})
}

// movedItems have something in one list, and in another one.
func movedItems() [][2]api.Word {
	chain := func(r api.Roster) api.Word { return api.Word{Kind: 2, To: 1, Roster: r} }
	book := func(s api.State) api.Word { return api.Word{Kind: 10, From: 1, To: 2, State: s} }
	deeds := func(ds ...api.Deed) api.Word { return api.Word{Kind: 4, From: 1, To: 2, Deeds: ds} }
	a, b, c := put("a", "x", req(1, 1)), del("b", req(2, 1)), purge("c", 3, req(3, 1))
	vs := versions(5, 3)
	return [][2]api.Word{
		{chain(of(1, 0, 2, 3)), chain(of(12, 0, 3))}, {chain(of(1, 0, 2, 3)), chain(of(2, 0, 1, 3))}, {chain(of(1, 3, 2, 3)), chain(of(3, 0, 1, 2, 3))}, {chain(of(5, 3, 4, 3)), chain(of(5, 0, 3, 4, 3))},
		{chain(of(1, 0, 2, 3)), chain(of(1, 0, 3, 2))}, {chain(of(1, 0, 2, 3)), chain(of(1, 0, 2))}, {chain(of(1, 3, 2, 3)), chain(of(1, 0, 2, 3))}, {chain(of(2, 0, 1)), chain(of(1, 0, 2))},
		{deeds(a, b), deeds(b, a)}, {deeds(a, b, c), deeds(a, c, b)}, {deeds(a, a), deeds(a)}, {deeds(a, a, b), deeds(a, b, b)}, {deeds(a), deeds(b)}, {deeds(), deeds(a)},
		{deeds(purge("c", 3, req(3, 1))), deeds(purge("c", 31, req(3, 1)))}, {deeds(del("c", req(3, 1))), deeds(purge("c", 3, req(3, 1)))},
		{book(api.State{Seq: 9, L: []api.Entry{entry("a", vs[:2]...), entry("b", vs[2:]...)}}), book(api.State{Seq: 9, L: []api.Entry{entry("a", vs[:3]...), entry("b", vs[3:]...)}})},
		{book(api.State{Seq: 9, L: []api.Entry{entry("a", vs[:1]...), entry("b", vs[1:2]...)}}), book(api.State{Seq: 9, L: []api.Entry{entry("a", vs[:2]...)}})},
		{book(api.State{Seq: 9, L: []api.Entry{entry("a", gone(3))}}), book(api.State{Seq: 9, L: []api.Entry{entry("a", there(3, ""))}})},
		{book(api.State{Seq: 9, L: []api.Entry{entry("a", there(1, ""), gone(3))}}), book(api.State{Seq: 9, L: []api.Entry{entry("a", gone(1), there(3, ""))}})},
		{book(api.State{Memos: []api.Memo{memo(req(2, 1), 0, 0)}}), book(api.State{Lows: [5]int64{0, req(2, 1)}})},
		{book(api.State{Seq: 9, Memos: []api.Memo{memo(req(2, 1), 5, 9)}}), book(api.State{Seq: 9, Memos: []api.Memo{memo(req(2, 1), 9, 5)}})},
		{book(api.State{Seq: 9, Memos: asked(2)}), book(api.State{Seq: 9, Memos: asked(1)})},
		{book(api.State{Lows: [5]int64{req(1, 1)}}), book(api.State{Lows: [5]int64{req(1, 2)}})}, {book(api.State{Lows: [5]int64{req(1, 1)}}), book(api.State{Lows: [5]int64{0, req(2, 1)}})},
		{book(api.State{Seq: 9}), {Kind: 10, From: 1, To: 2, Seq: 9}}, {book(api.State{Seq: 9}), {Kind: 10, From: 1, To: 2, Epoch: 9}},
	}
}

func TestUnlikeWordsHaveUnlikeTexts(t *testing.T) {
	l := texts{}
	for _, x := range neighbours() {
		texts := [2]string{}
		for k, w := range x {
			texts[k] = word.Put(w)
			if word.May(w) {
				l.add(t, "a neighbour", w)
			} else if texts[k] != "" {
				t.Errorf("P11.1: Put of what may not be: %.80q", texts[k])
			}
		}
		if texts[0] == texts[1] {
			t.Errorf("P11.1: Put: one text of two words: %s, %s", short(x[0]), short(x[1]))
		}
	}
	if len(l) < 80 {
		t.Errorf("%d texts alone", len(l))
	}
}

func TestPutOfEmptyLists(t *testing.T) {
	for k, x := range empties() {
		if s := word.Put(x[0]); s != word.Put(x[1]) {
			t.Errorf("P0.4: Put of nil and of empty lists, %d: unlike", k)
		} else if s != "" {
			back(t, "empty lists", x[1])
		}
	}
}

// What may not be, and is long.
func TestPutOfMuch(t *testing.T) {
	for _, w := range []api.Word{
		{}, bare(0, 0, 0), bare(1, 0, 0), bare(1, 1, 1), bare(-1, 1, 2),
		{Kind: 4, To: 1, Deeds: make([]api.Deed, 100000)}, {Kind: 4, To: 1, Deeds: slices.Repeat(puts(1), 100000)}, {Kind: 4, To: 1, Deeds: []api.Deed{put(xs(1<<22), "", req(1, 1))}},
		{Kind: 4, To: 1, Deeds: []api.Deed{put("k", xs(1<<22), req(1, 1))}}, {Kind: 4, To: 1, State: many(100000)}, {Kind: 4, To: 1, State: api.State{Memos: asked(100000)}},
		{Kind: 4, To: 1, Roster: of(1, 0, make([]int, 100000)...)}, {Kind: 4, To: 1, State: api.State{L: []api.Entry{entry("k", versions(100000, 1)...)}, Seq: top}},
	} {
		mayBe(t, "much", w, false)
		if s := word.Put(w); s != "" {
			t.Errorf("P11.1: Put of what may not be: %.80q", s)
		}
		equal(t, "much", w, clone(w), true)
	}
}
