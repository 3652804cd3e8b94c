package book_test

import (
	"fmt"
	"math"
	"slices"
	"testing"

	"armarium/api"
	"armarium/book"
)

func TestMay(t *testing.T) {
	n := map[bool]int{}
	for _, x := range cases() {
		n[x.may]++
		if book.May(x.s) != x.may {
			t.Errorf("P7.1: May, %s: %t", x.what, !x.may)
		}
		if allowed(x.s) != x.may {
			t.Errorf("the second reckoning of May, %s: %t", x.what, !x.may)
		}
	}
	if n[true] < 100 || n[false] < 100 {
		t.Errorf("so many books may be and may not: %v", n)
	}
}

// part is a way in which one part of some differs.
type part struct {
	what string
	set  func(s *api.State)
}

// parts are all of them: no two of them are alike.
func parts() []part {
	l := []part{
		{"Seq one less", func(s *api.State) { s.Seq-- }},
		{"Seq one more", func(s *api.State) { s.Seq++ }},
		{"Seq far more", func(s *api.State) { s.Seq += base }},
		{"no entries", func(s *api.State) { s.L = nil }},
		{"the first entry goes", func(s *api.State) { s.L = s.L[1:] }},
		{"the last entry goes", func(s *api.State) { s.L = s.L[:4] }},
		{"an entry between goes", func(s *api.State) { s.L = slices.Delete(s.L, 2, 3) }},
		{"one entry more", func(s *api.State) { s.L = append(s.L, entry("zz", there(8, "x"))) }},
		{"one entry more ahead", func(s *api.State) { s.L = slices.Insert(s.L, 0, entry("0", there(8, "x"))) }},
		{"a zero entry more", func(s *api.State) { s.L = append(s.L, api.Entry{}) }},
		{"entries the other way round", func(s *api.State) { slices.Reverse(s.L) }},
		{"no memos", func(s *api.State) { s.Memos = nil }},
		{"the first memo goes", func(s *api.State) { s.Memos = s.Memos[1:] }},
		{"the last memo goes", func(s *api.State) { s.Memos = s.Memos[:5] }},
		{"a memo between goes", func(s *api.State) { s.Memos = slices.Delete(s.Memos, 2, 3) }},
		{"one memo more", func(s *api.State) { s.Memos = append(s.Memos, memo(req(5, base-1)+1, 0, 0)) }},
		{"a zero memo more", func(s *api.State) { s.Memos = append(s.Memos, api.Memo{}) }},
		{"memos the other way round", func(s *api.State) { slices.Reverse(s.Memos) }},
	}
	for k := range 5 {
		l = append(l, entryParts(k)...)
		l = append(l,
			part{fmt.Sprint("a Low at ", k), func(s *api.State) { s.Lows[k]++ }},
			part{fmt.Sprint("another Low at ", k), func(s *api.State) { s.Lows[k] += base }},
			part{fmt.Sprint("a Low below 0 at ", k), func(s *api.State) { s.Lows[k] = -7 }},
		)
	}
	for k := range 6 {
		l = append(l,
			part{fmt.Sprint("the Req at ", k), func(s *api.State) { s.Memos[k].Req += 2 * base }},
			part{fmt.Sprint("the Err at ", k), func(s *api.State) { s.Memos[k].Res.Err++ }},
			part{fmt.Sprint("the Err far more at ", k), func(s *api.State) { s.Memos[k].Res.Err += 1 << 32 }},
			part{fmt.Sprint("the Ver at ", k), func(s *api.State) { s.Memos[k].Res.Ver++ }},
		)
	}
	return l
}

// entryParts are ways in which the entry at k differs.
func entryParts(k int) []part {
	last := func(s *api.State) *api.Version { vs := s.L[k].Vs; return &vs[len(vs)-1] }
	return []part{
		{fmt.Sprint("the key at ", k), func(s *api.State) { s.L[k].Key += "x" }},
		{fmt.Sprint("no key at ", k), func(s *api.State) { s.L[k].Key = "" }},
		{fmt.Sprint("no versions at ", k), func(s *api.State) { s.L[k].Vs = nil }},
		{fmt.Sprint("one version more at ", k), func(s *api.State) { s.L[k].Vs = append(s.L[k].Vs, gone(77)) }},
		{fmt.Sprint("one version more ahead at ", k), func(s *api.State) { s.L[k].Vs = slices.Insert(s.L[k].Vs, 0, gone(77)) }},
		{fmt.Sprint("the number of the last version at ", k), func(s *api.State) { last(s).Ver += 100 }},
		{fmt.Sprint("a body more at ", k), func(s *api.State) { last(s).Body += "y" }},
		{fmt.Sprint("a body of another byte at ", k), func(s *api.State) { last(s).Body = "\xfe" }},
		{fmt.Sprint("another body of as many bytes at ", k), func(s *api.State) { last(s).Body = "\xff" }},
		{fmt.Sprint("gone or not at ", k), func(s *api.State) { last(s).Gone = !last(s).Gone }},
		{fmt.Sprint("the number of the first version at ", k), func(s *api.State) { s.L[k].Vs[0].Ver -= 200 }},
	}
}

func TestEqOfOnePart(t *testing.T) {
	turned := []api.State{some()}
	what := []string{"as it is"}
	for _, x := range parts() {
		s := some()
		x.set(&s)
		turned, what = append(turned, s), append(what, x.what)
	}
	for k, a := range turned {
		for n, b := range turned {
			if book.Eq(a, b) != (k == n) {
				t.Errorf("P7.1: Eq, %s, %s: %t", what[k], what[n], k != n)
			}
		}
		if !book.Eq(a, clone(a)) || !book.Eq(clone(a), a) {
			t.Errorf("P7.1: Eq, %s: false of itself", what[k])
		}
	}
}

func TestEqOfNilAndEmpty(t *testing.T) {
	nils := api.State{Seq: 3, L: []api.Entry{{Key: "a"}, {Key: "b"}}}
	empties := api.State{Seq: 3, L: []api.Entry{{Key: "a", Vs: []api.Version{}}, {Key: "b", Vs: versions(3, 9)[:0]}}, Memos: []api.Memo{}}
	none := api.State{Seq: 3, Memos: some().Memos[:0]}
	empty := api.State{Seq: 3, L: []api.Entry{}, Memos: []api.Memo{}}
	for _, x := range []struct {
		a, b api.State
		want bool
	}{
		{nils, empties, true}, {none, empty, true}, {none, api.State{Seq: 3}, true}, {empty, api.State{Seq: 3}, true}, {api.State{}, api.State{}, true},
		{nils, empty, false}, {empties, none, false}, {api.State{}, empty, false}, {api.State{L: make([]api.Entry, 1)}, api.State{}, false}, {api.State{Memos: make([]api.Memo, 1)}, api.State{}, false},
	} {
		if book.Eq(x.a, x.b) != x.want || book.Eq(x.b, x.a) != x.want {
			t.Errorf("P7.1: Eq of %s and %s: %t", short(x.a), short(x.b), !x.want)
		}
	}
}

func TestEqOfAllCases(t *testing.T) {
	l := cases()
	for k, x := range l {
		if !book.Eq(x.s, clone(x.s)) {
			t.Errorf("P7.1: Eq of %s and itself: false", x.what)
		}
		for _, y := range l[:k] {
			if want := same(x.s, y.s); book.Eq(x.s, y.s) != want || book.Eq(y.s, x.s) != want {
				t.Fatalf("P7.1: Eq of %s and %s: %t", x.what, y.what, !want)
			}
		}
	}
}

// Lists of any length come in, and numbers at the ends of their range.
func TestMayAndEqOfLongLists(t *testing.T) {
	for _, s := range []api.State{
		{Seq: top, L: make([]api.Entry, 1<<20)}, {Seq: top, Memos: make([]api.Memo, 1<<20)}, {L: []api.Entry{{Key: "k", Vs: make([]api.Version, 1<<20)}}},
		{Seq: top, L: []api.Entry{{Key: xs(1 << 20), Vs: versions(1, 3)}}}, {Seq: top, L: []api.Entry{{Key: "k", Vs: []api.Version{there(3, xs(1<<20))}}}},
		{Seq: math.MaxInt64, Memos: []api.Memo{memo(math.MaxInt64, math.MaxInt, math.MaxInt64)}, Lows: [5]int64{math.MinInt64, math.MaxInt64, -1, 1, base}},
		{Seq: math.MinInt64, Memos: []api.Memo{memo(math.MinInt64, math.MinInt, math.MinInt64)}},
	} {
		if book.May(s) || book.Put(s) != "" || !book.Eq(s, clone(s)) || book.Eq(s, api.State{}) {
			t.Errorf("P7.1: May, Put, Eq of %.80s", short(s))
		}
	}
}
