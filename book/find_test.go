package book_test

import (
	"fmt"
	"maps"
	"math"
	"slices"
	"strings"
	"testing"

	"armarium/api"
	"armarium/book"
)

// gets asks that Get answers v or err.
func gets(t *testing.T, what string, s api.State, key string, ver int64, v api.Version, err api.Errno) {
	t.Helper()
	if got, is := book.Get(s, key, ver); got != v || is != err {
		t.Errorf("P7.3: Get, %s, %.50q %d: %+v, error %d; not %+v, error %d", what, key, ver, got, is, v, err)
	}
}

func TestGetWrittenOut(t *testing.T) {
	none, lost := api.ErrNone, api.ErrGone
	for _, x := range []struct {
		key  string
		ver  int64
		body string
		err  api.Errno
	}{
		{"a", 0, "", lost}, {"a", 1, "", none}, {"a", 2, "one", 0}, {"a", 3, "", none}, {"a", 4, "", none}, {"a", 5, "", lost}, {"a", 6, "", none},
		{"a/b", 0, "last", 0}, {"a/b", 3, "x", 0}, {"a/b", 9, "", 0}, {"a/b", 60, "last", 0}, {"a/b", 61, "", none}, {"a/b", 2, "", none},
		{"b", 0, "", lost}, {"b", 7, "", lost}, {"b", 3, "", none}, {"c.d", 0, xs(300), 0}, {"c.d", 11, all(), 0}, {"c.d", 12, "", lost}, {"c.d", 13, "", lost},
		{"c.d", 14, "4", 0}, {"c.d", 15, "", none}, {"c.d", 20, "5", 0}, {"z_9", 0, ",]#:0", 0}, {"z_9", 1, ",]#:0", 0},
		{"", 0, "", none}, {"", 2, "", none}, {"A", 0, "", none}, {"a/", 0, "", none}, {"a/b/", 0, "", none}, {"/b", 3, "", none}, {"z", 1, "", none}, {"zz", 0, "", none}, {"0", 0, "", none},
		{xs(41), 0, "", none}, {"a\x00", 0, "", none}, {all(), 2, "", none},
	} {
		v := api.Version{}
		if x.err == api.OK {
			v = there(x.ver, x.body)
			if x.ver == 0 {
				v.Ver = map[string]int64{"a/b": 60, "c.d": 21, "z_9": 1}[x.key]
			}
		}
		gets(t, "some", some(), x.key, x.ver, v, x.err)
	}
}

func TestGet(t *testing.T) {
	for _, s := range []api.State{{}, some(), many(1), many(39), many(40), greatest(), little(), ofKey(4, versions(12, 100)), ofKey(39, versions(11, 77))} {
		m := modelOf(s)
		for _, key := range []string{"", "a", "a/b", "b", "c.d", "key", "k000", "k001", "k039", "k040", "none", xs(1000)} {
			vs := m.keys[key]
			for ver := int64(-3); ver <= 110; ver++ {
				getsOf(t, s, vs, key, ver)
			}
			for _, ver := range []int64{math.MinInt64, math.MinInt64 + 1, -top, -base, base, base + 2, base + 100, 1<<32 + 5, top - 11, top - 1, top, top + 1, math.MaxInt64 - 1, math.MaxInt64} {
				getsOf(t, s, vs, key, ver)
			}
		}
		for _, e := range s.L {
			for ver := range m.keys[e.Key] {
				getsOf(t, s, m.keys[e.Key], e.Key, ver)
				getsOf(t, s, m.keys[e.Key], e.Key, -ver)
			}
			getsOf(t, s, m.keys[e.Key], e.Key, 0)
		}
	}
}

// getsOf asks for Get of a key that has these versions.
func getsOf(t *testing.T, s api.State, vs map[int64]api.Version, key string, ver int64) {
	t.Helper()
	if ver == 0 && len(vs) > 0 {
		newest := slices.Max(slices.Collect(maps.Keys(vs)))
		if vs[newest].Gone {
			gets(t, "now", s, key, ver, api.Version{}, api.ErrGone)
		} else {
			gets(t, "now", s, key, ver, vs[newest], api.OK)
		}
		return
	}
	v, is := vs[ver]
	switch {
	case !is:
		gets(t, "none", s, key, ver, api.Version{}, api.ErrNone)
	case v.Gone:
		gets(t, "gone", s, key, ver, api.Version{}, api.ErrGone)
	default:
		gets(t, "a version", s, key, ver, v, api.OK)
	}
}

// mixed is a book of n keys of several beginnings, each third one of which is gone now.
func mixed(n int) api.State {
	names := map[string]bool{}
	for k := range n {
		names[[]string{"a", "a/", "b-", "ab", "z"}[k%5]+strings.Repeat(string([]byte{'a' + byte(k/5)}), k%3)+[]string{"", "x", "/x"}[k%3]+fmt.Sprint(k/5)] = true
	}
	s := api.State{Seq: 1000}
	for k, name := range slices.Sorted(maps.Keys(names)) {
		vs := versions(1+k%12, int64(100+k))
		vs[len(vs)-1] = []api.Version{there(int64(100+k), "body"), there(int64(100+k), ""), gone(int64(100 + k))}[k%3]
		s.L = append(s.L, entry(name, vs...))
	}
	return s
}

// found is a second reckoning of which keys there are, those that are gone too or not.
func found(s api.State, prefix, after string, goneToo bool) []string {
	l := []string{}
	for key, vs := range modelOf(s).keys {
		newest := vs[slices.Max(slices.Collect(maps.Keys(vs)))]
		if len(key) >= len(prefix) && key[:len(prefix)] == prefix && strings.Compare(after, key) < 0 && (goneToo || !newest.Gone) {
			l = append(l, key)
		}
	}
	slices.Sort(l)
	return l
}

// mosts are how many a page may have, and how many it has of them.
var mosts = map[int]int{
	math.MinInt: 1, -1 << 32: 1, -20: 1, -1: 1, 0: 1, 1: 1, 2: 2, 3: 3, 5: 5, 19: 19, 20: 20, 21: 20, 22: 20, 40: 20, 1 << 32: 20, 1<<32 + 1: 20, math.MaxInt: 20,
}

// pages asks for Names and Versions of all pages that begin so.
func pages(t *testing.T, s api.State, prefix, after string) {
	t.Helper()
	names, keys := found(s, prefix, after, false), found(s, prefix, after, true)
	for most, n := range mosts {
		l, more := book.Names(s, prefix, after, most)
		if !slices.Equal(l, names[:min(n, len(names))]) || more != (len(names) > n) {
			t.Errorf("P7.3: Names, %q, %q, %d: %q, %t; not of %q", prefix, after, most, l, more, names)
		}
		entries, more := book.Versions(s, prefix, after, most)
		if !slices.EqualFunc(entries, keys[:min(n, len(keys))], func(e api.Entry, key string) bool { return e.Key == key }) || more != (len(keys) > n) {
			t.Errorf("P7.3: Versions, %q, %q, %d: %v, %t; not of %q", prefix, after, most, entries, more, keys)
		}
		for _, e := range entries {
			k := slices.IndexFunc(s.L, func(x api.Entry) bool { return x.Key == e.Key })
			if k < 0 || !slices.Equal(e.Vs, s.L[k].Vs) {
				t.Errorf("P7.3: Versions, %q, %q, %d: %+v has not all versions", prefix, after, most, e)
			}
		}
	}
}

func TestPages(t *testing.T) {
	for _, s := range []api.State{{}, some(), mixed(7), mixed(40), many(1), many(40), greatest()} {
		if !allowed(s) {
			t.Fatalf("it may not be: %s", short(s))
		}
		if !allowed(s) {
			t.Fatalf("it may not be: %s", short(s))
		}
		texts := []string{"", "a", "a/", "a/b", "a0", "b", "b-", "z", "zz", "zzz", "k", "k0", "k00", "k010", "k019", "k020", "k021", "k039", "k04", "A", " ", "~", "\x00", "\xff", "{", "`", xs(40), xs(41), strings.Repeat("z", 38), strings.Repeat("z", 39), all()}
		for _, e := range s.L[:min(6, len(s.L))] {
			texts = append(texts, e.Key, e.Key+"x", e.Key+"\x00", e.Key[1:])
		}
		for _, e := range s.L {
			for n := range min(5, len(e.Key)) {
				texts = append(texts, e.Key[:n])
			}
		}
		slices.Sort(texts)
		texts = slices.Compact(texts)
		for _, prefix := range texts {
			for _, after := range texts {
				pages(t, s, prefix, after)
			}
		}
	}
}

// A page that has just all, one that lacks one, and one that could have one more.
func TestPagesThatAreJustFull(t *testing.T) {
	for n := range 40 {
		s := many(n)
		s.L = append(slices.Clip(s.L), entry("other"))
		s.L[n].Vs, s.Seq = versions(1, 50), 50
		pages(t, s, "k", "")
		pages(t, s, "", "")
		// none of the first half is there now
		for k := range n / 2 {
			s.L[k].Vs = []api.Version{s.L[k].Vs[0], gone(50)}
		}
		pages(t, s, "k", "")
		pages(t, s, "", key(n/4))
	}
}

func TestPagesWrittenOut(t *testing.T) {
	for _, x := range []struct {
		prefix, after string
		most          int
		names         string
		more          bool
		keys          string
		moreKeys      bool
	}{
		{"", "", 20, "[a/b c.d z_9]", false, "[a a/b b c.d z_9]", false},
		{"", "", 3, "[a/b c.d z_9]", false, "[a a/b b]", true},
		{"", "", 2, "[a/b c.d]", true, "[a a/b]", true},
		{"", "", 0, "[a/b]", true, "[a]", true},
		{"a", "", 1, "[a/b]", false, "[a]", true},
		{"a", "a", 1, "[a/b]", false, "[a/b]", false},
		{"a", "a/b", 1, "[]", false, "[]", false},
		{"b", "", 20, "[]", false, "[b]", false},
		{"", "a/a", 4, "[a/b c.d z_9]", false, "[a/b b c.d z_9]", false},
		{"", "c.d", -5, "[z_9]", false, "[z_9]", false},
		{"c.d", "b", 20, "[c.d]", false, "[c.d]", false},
		{"c.dd", "", 20, "[]", false, "[]", false},
		{"", "z_9", 20, "[]", false, "[]", false},
	} {
		l, more := book.Names(some(), x.prefix, x.after, x.most)
		if fmt.Sprint(l) != x.names || more != x.more {
			t.Errorf("P7.3: Names, %q, %q, %d: %v, %t", x.prefix, x.after, x.most, l, more)
		}
		keys := []string{}
		entries, more := book.Versions(some(), x.prefix, x.after, x.most)
		for _, e := range entries {
			keys = append(keys, e.Key)
		}
		if fmt.Sprint(keys) != x.keys || more != x.moreKeys {
			t.Errorf("P7.3: Versions, %q, %q, %d: %v, %t", x.prefix, x.after, x.most, keys, more)
		}
	}
}

func TestTold(t *testing.T) {
	full := api.State{Seq: 60, Memos: asked(100, 1, 2, 3, 4, 5)}
	for _, s := range []api.State{{}, some(), little(), full, ten(), greatest()} {
		results := map[int64]api.Result{}
		for _, m := range s.Memos {
			results[m.Req] = m.Res
		}
		reqs := []int64{math.MinInt64, -1, 0, 1, 4, 5, base, base + 1, 6 * base, 6*base + 4, top, math.MaxInt64}
		for node := range 7 {
			for n := int64(-2); n < 210; n++ {
				reqs = append(reqs, req(node, n))
			}
		}
		for _, m := range s.Memos {
			reqs = append(reqs, m.Req-1, m.Req, m.Req+1, -m.Req, m.Req+base, m.Req-base)
		}
		for _, r := range reqs {
			want, is := results[r]
			if got, ok := book.Told(s, r); got != want || ok != is {
				t.Errorf("P7.3: Told of %d: %+v, %t; not %+v, %t", r, got, ok, want, is)
			}
		}
	}
}

// A book that may not be comes in as well: there each call ends, and asks no more of it than its words.
func TestFindInBooksThatMayNotBe(t *testing.T) {
	for _, x := range cases() {
		was := clone(x.s)
		for _, key := range []string{"", "k000", "k001", "a", "other"} {
			for _, ver := range []int64{math.MinInt64, -1, 0, 1, 4, 5, math.MaxInt64} {
				if v, err := book.Get(x.s, key, ver); err != api.OK && v != (api.Version{}) || err == api.OK && (v.Gone || ver < 0) {
					t.Errorf("P7.3: Get, %s, %q %d: %+v, error %d", x.what, key, ver, v, err)
				}
			}
			for most, n := range mosts {
				l, _ := book.Names(x.s, "", key, most)
				entries, _ := book.Versions(x.s, key, "", most)
				if len(l) > n || len(entries) > n {
					t.Errorf("P7.3: Names, Versions, %s: %d, %d of %d", x.what, len(l), len(entries), n)
				}
			}
		}
		if _, is := book.Told(x.s, math.MaxInt64-7); is {
			t.Errorf("P7.3: Told, %s: of no request", x.what)
		}
		if !same(x.s, was) {
			t.Errorf("P0.3: %s: it does not stay as it was", x.what)
		}
	}
	book.Names(api.State{L: make([]api.Entry, 1<<20)}, "", "", 5)
	book.Versions(api.State{L: make([]api.Entry, 1<<20)}, "", "", math.MinInt)
	book.Get(api.State{L: make([]api.Entry, 1<<20)}, "", 0)
	book.Get(api.State{L: []api.Entry{{Key: "k", Vs: make([]api.Version, 1<<20)}}}, "k", 1)
	book.Told(api.State{Memos: make([]api.Memo, 1<<20)}, 1)
	book.Do(api.State{L: make([]api.Entry, 1<<20), Memos: make([]api.Memo, 1<<20)}, put("a", ""))
}
