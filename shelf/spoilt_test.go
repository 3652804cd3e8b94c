package shelf_test

import (
	"fmt"
	"math"
	"slices"
	"strings"
	"testing"

	"armarium/api"
	"armarium/book"
	"armarium/deed"
	"armarium/journal"
	"armarium/pouch"
	"armarium/roll"
	"armarium/shelf"
)

// corrupt asks that Open finds the chest spoilt.
func corrupt(t *testing.T, what string, c *roll.Chest) {
	t.Helper()
	if s, err := shelf.Open(c); s != nil || err != api.ErrCorrupt {
		t.Errorf("P8.2: %s: Open: %v, error %d", what, s, err)
	}
}

// of is a chest with a journal that has these.
func of(t *testing.T, first string, records ...string) *roll.Chest {
	t.Helper()
	s := journal.Leaf(first)
	for _, x := range records {
		s += journal.Leaf(x)
	}
	return written(t, map[string]string{"LOG": s})
}

// journalOf is what the chest's journal has.
func journalOf(t *testing.T, c *roll.Chest) (string, []string) {
	t.Helper()
	j, err := journal.Open(c)
	if err != api.OK {
		t.Fatalf("journal.Open: error %d", err)
	}
	return j.First(), j.Records()
}

// short is a shelf with a first leaf and few records behind it, and what is told behind each of them.
func short(t *testing.T) (*both, []model) {
	t.Helper()
	x := roomy(t, "a short one")
	x.fine(x.enter(3), x.learn("two keys", api.State{Seq: 5, L: []api.Entry{entry("a", there(2, "x"), gone(4)), entry("b", there(5, ""))}}, puts(1)))
	l := []model{x.m}
	for _, do := range []func(){func() { x.add(put(5, "c", "y")) }, func() { x.commits(6) }, func() { x.enter(9) }, func() { x.add(del(6, "b")) }, func() { x.commits(8) }} {
		do()
		l = append(l, x.m)
	}
	if _, records := journalOf(t, x.c); len(records) != len(l)-1 {
		t.Fatalf("%d records, not %d", len(records), len(l)-1)
	}
	return x, l
}

// A byte turned: ErrCorrupt, or, where the journal takes it for a torn end, what was there before.
func TestAByteTurned(t *testing.T) {
	t.Parallel()
	x, tolds := short(t)
	text, _ := x.c.Read("LOG")
	count := map[api.Errno]int{}
	for at := range text {
		for turn := 1; turn < 256; turn += 2 {
			b := []byte(text)
			b[at] ^= byte(turn)
			j, want := journal.Open(written(t, map[string]string{"LOG": string(b)}))
			s, err := shelf.Open(written(t, map[string]string{"LOG": string(b)}))
			count[err]++
			if err != want || (s == nil) != (err != api.OK) {
				t.Fatalf("P8.2: the byte %d turned by %d: error %d, not %d", at, turn, err, want)
			}
			if s != nil && !tolds[len(j.Records())].is(told(s)) {
				t.Fatalf("P8.2: the byte %d turned by %d: %s", at, turn, told(s))
			}
		}
	}
	if count[api.ErrCorrupt] < 10000 || count[api.OK] == 0 || len(count) != 2 {
		t.Errorf("so often each error came: %v", count)
	}
}

// A LOG that ends anywhere.
func TestAnEnd(t *testing.T) {
	x, tolds := short(t)
	text, _ := x.c.Read("LOG")
	first, records := journalOf(t, x.c)
	for n := range len(text) + 1 {
		c := written(t, map[string]string{"LOG": text[:n]})
		if n < len(journal.Leaf(first)) {
			corrupt(t, fmt.Sprint("a LOG of ", n, " bytes"), c)
			continue
		}
		k, end := 0, len(journal.Leaf(first))
		for k < len(records) && end+len(journal.Leaf(records[k])) <= n {
			end += len(journal.Leaf(records[k]))
			k++
		}
		if s := opened(t, "P8.2: an end", c); !tolds[k].is(told(s)) {
			t.Errorf("P8.2: a LOG of %d bytes: %s, not %s", n, told(s), tolds[k])
		}
	}
}

// judge asks that Open takes a journal just if a shelf has written it: it is ErrCorrupt, or it tells what may be, and
// a shelf that is told the same writes the same. It answers whether it was taken.
func judge(t *testing.T, what, first string, records ...string) bool {
	t.Helper()
	c := of(t, first, records...)
	s, err := shelf.Open(c)
	if err != api.OK {
		if err != api.ErrCorrupt || s != nil {
			t.Fatalf("P8.2: %s: Open: error %d", what, err)
		}
		return false
	}
	m := told(s)
	if !book.May(m.book) || len(m.pend) > 60 || m.seq() > top || m.learnt < 0 || m.learnt > m.epoch || slices.ContainsFunc(m.pend, func(d api.Deed) bool { return !deed.May(d) }) {
		t.Fatalf("P8.2: %s: Open: it may not be: %s", what, m)
	}
	if len(records) == 0 {
		if s.Pack() != api.OK {
			t.Fatalf("P8.2: %s: Pack", what)
		}
		if laid, _ := journalOf(t, c); laid != first && first != "" {
			t.Fatalf("P8.2: %s: Open: no shelf lays %.200q, but %.200q", what, first, laid)
		}
		return true
	}
	before := of(t, first, records[:len(records)-1]...)
	repeat(t, what, opened(t, what, before), m)
	if _, l := journalOf(t, before); !slices.Equal(l, records) {
		t.Fatalf("P8.2: %s: Open: no shelf writes %.200q, but %.200q", what, records, l)
	}
	return true
}

// repeat does to s the one call behind which it tells m.
func repeat(t *testing.T, what string, s *shelf.Shelf, m model) {
	t.Helper()
	err := api.OK
	switch {
	case s.Seq() < m.seq():
		err = s.Add(m.pend[len(m.pend)-1])
	case s.Book().Seq < m.book.Seq:
		_, err = s.Commit(m.book.Seq)
	case s.Epoch() < m.epoch:
		err = s.Enter(m.epoch)
	}
	if err != api.OK || !m.is(told(s)) {
		t.Fatalf("P8.2: %s: Open: no call comes to %s: %s, error %d", what, m, told(s), err)
	}
}

// firsts are texts that shelves lay.
func firsts(t *testing.T) []string {
	l := []string{}
	for _, do := range []func(x *both){
		func(x *both) { x.pack() },
		func(x *both) { x.enter(7); x.learn("some", some(), mays()) },
		func(x *both) { x.enter(2); x.learn("60", api.State{Seq: top - 60}, puts(60)); x.enter(math.MaxInt64) },
		func(x *both) { x.enter(1); x.learn("a Seq", api.State{Seq: top - 1}, puts(1)) },
	} {
		x := roomy(t, "firsts")
		do(x)
		x.fine(x.pack())
		first, _ := journalOf(t, x.c)
		l = append(l, first)
	}
	return l
}

// records are such as shelves write behind the first one of firsts, each alone or behind a few.
func records(t *testing.T) [][]string {
	l := [][]string{}
	for _, do := range []func(x *both){
		func(x *both) { x.add(put(1, "a", "x")) }, func(x *both) { x.add(mays()[6]) }, func(x *both) { x.add(lowered(del(3, "b/c"), 17)) }, func(x *both) { x.add(purge(4, "d", top)) },
		func(x *both) { x.enter(1) }, func(x *both) { x.enter(120) }, func(x *both) { x.enter(math.MaxInt64) },
		func(x *both) { x.add(put(1, "a", "x")); x.commits(1) },
		func(x *both) {
			for _, d := range puts(13) {
				x.add(d)
			}
			x.commits(11)
		},
		func(x *both) { x.enter(120); x.enter(1300) },
	} {
		x := roomy(t, "records")
		x.fine(x.pack())
		do(x)
		_, records := journalOf(t, x.c)
		l = append(l, records)
	}
	return l
}

// turned are texts that are like s, but for a byte.
func turned(s string) []string {
	l := []string{}
	for at := range s {
		l = append(l, s[:at]+s[at+1:], s[:at]+s[at:at+1]+s[at:], s[:at], s[at+1:], s[:at]+" "+s[at:], s[:at]+"0"+s[at:])
		for x := range 256 {
			if byte(x) != s[at] {
				l = append(l, s[:at]+string([]byte{byte(x)})+s[at+1:])
			}
		}
	}
	return append(l, s+"x", s+" ", s+"0", s+"1:0#", s+s)
}

func num(n int64) pouch.Value { return pouch.Value{Kind: pouch.Num, N: n} }

func str(s string) pouch.Value { return pouch.Value{Kind: pouch.Str, S: s} }

func list(l ...pouch.Value) pouch.Value { return pouch.Value{Kind: pouch.List, L: l} }

// others are values that are like v, but for a part; a text in it that is a value's is turned as a value, too.
func others(v pouch.Value) []pouch.Value {
	l := []pouch.Value{num(0), num(-1), num(1), num(3), str(""), str("0"), list(), list(num(0))}
	switch v.Kind {
	case pouch.Num:
		for _, n := range []int64{v.N - 1, v.N + 1, -v.N, v.N + base, top, top + 1, math.MaxInt64, math.MinInt64} {
			l = append(l, num(n))
		}
		l = append(l, str(fmt.Sprint(v.N)))
	case pouch.Str:
		l = append(l, str(v.S+"x"), str(v.S+v.S))
		if in, err := pouch.All(v.S); err == api.OK {
			l = append(l, in)
			for _, x := range others(in) {
				l = append(l, str(pouch.Put(x)))
			}
		}
	case pouch.List:
		l = append(l, otherLists(v.L)...)
	}
	return slices.DeleteFunc(l, func(x pouch.Value) bool { return pouch.Eq(x, v) })
}

func otherLists(l []pouch.Value) []pouch.Value {
	all := []pouch.Value{list(append(slices.Clone(l), num(0))...), list(append(slices.Clone(l), str(""))...), list(append(slices.Clone(l), list())...)}
	for k := range l {
		all = append(all, list(slices.Delete(slices.Clone(l), k, k+1)...), list(slices.Insert(slices.Clone(l), k, l[k])...), list(slices.Insert(slices.Clone(l), k, num(0))...))
		if k > 0 {
			x := slices.Clone(l)
			x[k-1], x[k] = x[k], x[k-1]
			all = append(all, list(x...))
		}
		for _, x := range others(l[k]) {
			y := slices.Clone(l)
			y[k] = x
			all = append(all, list(y...))
		}
	}
	return all
}

// otherValues are texts that are like s, whose end is a value, but for a part of that.
func otherValues(s string) []string {
	l := []string{}
	for k := range s {
		v, err := pouch.All(s[k:])
		if err != api.OK {
			continue
		}
		for _, x := range others(v) {
			l = append(l, s[:k]+pouch.Put(x))
		}
		break
	}
	return l
}

// counts asks that some were taken, and many were not.
func counts(t *testing.T, what string, taken map[bool]int) {
	t.Helper()
	if taken[true] < 20 || taken[false] < 1000 {
		t.Errorf("%s: so many were taken, or not: %v", what, taken)
	}
}

func TestFirstsTurned(t *testing.T) {
	t.Parallel()
	taken := map[bool]int{}
	for n, first := range firsts(t) {
		if !judge(t, "what was laid", first) {
			t.Errorf("P8.2: Open of what was laid: %.100q", first)
		}
		l := otherValues(first)
		if len(first) < 300 {
			l = append(l, turned(first)...)
		}
		for _, s := range l {
			taken[judge(t, fmt.Sprintf("the state %d turned", n), s)]++
		}
	}
	counts(t, "firsts", taken)
}

func TestRecordsTurned(t *testing.T) {
	t.Parallel()
	taken := map[bool]int{}
	first := firsts(t)[0]
	for n, l := range records(t) {
		if !judge(t, "what was written", first, l...) {
			t.Errorf("P8.2: Open of what was written: %.100q", l)
		}
		ahead, record := l[:len(l)-1], l[len(l)-1]
		for _, s := range append(turned(record), otherValues(record)...) {
			taken[judge(t, fmt.Sprintf("the record %d turned", n), first, append(slices.Clone(ahead), s)...)]++
		}
	}
	counts(t, "records", taken)
}

func TestNoShelfs(t *testing.T) {
	texts := []string{
		"x", " ", "0", "0:]", "0:,", "1:0#", "1:7#", "2:-1#", "1:x,", "A", "C", "E", "AA", "A1:0#", "C1:0#", "E1:0#", "C2:-1#", "E2:-1#", "\x00", xs(1000),
		deed.Put(put(1, "a", "")), book.Put(some()), book.Put(api.State{}), pouch.Put(list(num(0), num(0))), pouch.Put(list(num(1), num(0))), strings.Repeat("0:]", 8),
	}
	for _, s := range texts {
		corrupt(t, fmt.Sprintf("the first leaf %.40q", s), of(t, s))
		corrupt(t, fmt.Sprintf("the first leaf %.40q, and a record", s), of(t, s, records(t)[0]...))
		corrupt(t, fmt.Sprintf("the record %.40q behind others", s), of(t, "", append(slices.Clone(records(t)[0]), s)...))
	}
	for _, s := range append(texts, "") {
		corrupt(t, fmt.Sprintf("the record %.40q", s), of(t, "", s))
		corrupt(t, fmt.Sprintf("the record %.40q ahead of others", s), of(t, "", append([]string{s}, records(t)[0]...)...))
	}
	for _, first := range firsts(t) {
		corrupt(t, "a state as a record", of(t, "", first))
		corrupt(t, "a state behind itself", of(t, first, first))
	}
	for _, l := range records(t) {
		corrupt(t, "a record as a state", of(t, l[len(l)-1]))
	}
	corrupt(t, "a LOG without a leaf", written(t, map[string]string{"LOG": ""}))
	corrupt(t, "no journal", written(t, map[string]string{"LOG": "some text"}))
}

// Records that a shelf writes, but not there.
func TestRecordsElsewhere(t *testing.T) {
	x := roomy(t, "records elsewhere")
	for _, d := range puts(60) {
		x.fine(x.add(d))
	}
	x.commits(30)
	x.fine(x.enter(4))
	_, l := journalOf(t, x.c)
	add, commit, enter := l[0], l[60], l[61]
	for what, records := range map[string][]string{
		"a Commit of what is not there": {commit}, "a Commit of too much": append(slices.Clone(l[:29]), commit), "a Commit twice": append(slices.Clone(l[:61]), commit),
		"a Commit behind more": append(slices.Clone(l[:40]), commit, enter, commit), "an Enter twice": {enter, enter}, "an Enter twice, with others between": append([]string{enter}, l...),
		"61 that wait": append(slices.Clone(l[:60]), add), "61 that wait, and a Commit": append(slices.Clone(l[:60]), add, commit),
	} {
		corrupt(t, what, of(t, "", records...))
	}
	for what, records := range map[string][]string{
		"all": l, "those that wait": l[:60], "the same once more": {add, add}, "just as many as a Commit takes": append(slices.Clone(l[:30]), commit),
		"60, a Commit, and 30 more": append(slices.Clone(l[:61]), l[:30]...), "an Enter ahead": {enter, add},
	} {
		opened(t, "P8.2: "+what, of(t, "", records...))
	}
	corrupt(t, "31 more behind a Commit of 30", of(t, "", append(slices.Clone(l[:61]), l[:31]...)...))
	y := roomy(t, "the last number")
	y.fine(y.learn("a great Seq", api.State{Seq: top - 1}, nil))
	first, _ := journalOf(t, y.c)
	opened(t, "P8.2: the last number", of(t, first, add))
	corrupt(t, "a number above the last one", of(t, first, add, add))
	corrupt(t, "a Commit below the Book's Seq", of(t, first, commit))
	corrupt(t, "an empty record behind an Add", of(t, "", add, ""))
}

// A spoilt chest is as spoilt when it is opened again, and behind a fall.
func TestSpoiltForGood(t *testing.T) {
	for _, s := range []string{"x", "A", ""} {
		c := of(t, "", s)
		for range 3 {
			corrupt(t, "opened again", c)
		}
		corrupt(t, "torn", c.Tear(0))
	}
}
