package book_test

import (
	"fmt"
	"math"
	"slices"
	"testing"

	"armarium/api"
	"armarium/book"
)

// does asks that Do of s and d answers r, and s as set turns it.
func does(t *testing.T, what string, s api.State, d api.Deed, r api.Result, set func(u *api.State)) {
	t.Helper()
	was, want := clone(s), clone(s)
	set(&want)
	got, result := book.Do(s, d)
	if result != r || !same(got, want) {
		t.Errorf("P7.2: Do, %s: %+v, %s; not %+v, %s", what, result, short(got), r, short(want))
	}
	if !same(s, was) {
		t.Errorf("P7.2: Do, %s: the book does not stay as it was: %s", what, short(s))
	}
	if book.May(got) != book.May(s) {
		t.Errorf("P7.2: Do, %s: May of the two books is not alike", what)
	}
}

// stays turns nothing, and counts the Seq alone.
func stays(*api.State) {}

func counts(u *api.State) { u.Seq++ }

// done is a book that has one memo more, behind all, of one deed more.
func done(r api.Result, d api.Deed, set func(u *api.State)) func(u *api.State) {
	return func(u *api.State) {
		u.Seq++
		u.Memos = append(u.Memos, api.Memo{Req: d.Req, Res: r})
		set(u)
	}
}

// failed is a Result that is an error.
func failed(err api.Errno) api.Result { return api.Result{Err: err} }

// put, del and purge are deeds by the 5th request of the node 4, of which some has no memo.
func put(key, body string) api.Deed { return api.Deed{Kind: 1, Key: key, Body: body, Req: req(4, 5)} }

func del(key string) api.Deed { return api.Deed{Kind: 2, Key: key, Req: req(4, 5)} }

func purge(key string, ver int64) api.Deed {
	return api.Deed{Kind: 3, Key: key, Ver: ver, Req: req(4, 5)}
}

// matched is d with a condition.
func matched(d api.Deed, cond int, tag string) api.Deed {
	d.Cond, d.Tag = cond, tag
	return d
}

// by is d as another request's.
func by(d api.Deed, r, low int64) api.Deed {
	d.Req, d.Low = r, low
	return d
}

// oddDeeds are deeds that may not be.
func oddDeeds() []api.Deed {
	odd := func(set func(d *api.Deed)) api.Deed {
		d := put("b", "body")
		set(&d)
		return d
	}
	l := []api.Deed{
		{}, {Kind: 1}, {Kind: 2, Key: "b"}, put("", "x"), put("B", "x"), put("b", xs(301)), put(xs(41), ""), purge("b", 0), purge("b", -1), purge("b", top+1),
		matched(put("b", ""), 3, ""), matched(put("b", ""), -1, ""), matched(put("b", ""), 2, ""), matched(put("b", ""), 0, "00000001"), matched(put("b", ""), 2, "fff10000"),
		matched(del("b"), 1, ""), matched(purge("b", 7), 1, ""), by(put("b", ""), 0, 0), by(put("b", ""), 7, 7), by(put("b", ""), req(6, 1), 0), by(put("b", ""), req(1, 0), 0),
		by(put("b", ""), req(2, 7), req(2, 8)), by(put("b", ""), req(2, 7), -1), by(put("b", ""), math.MaxInt64, 0), by(put("b", ""), math.MinInt64, math.MinInt64),
		odd(func(d *api.Deed) { d.Kind = 0 }), odd(func(d *api.Deed) { d.Kind = 4 }), odd(func(d *api.Deed) { d.Kind = -1 }), odd(func(d *api.Deed) { d.Kind = 2 }),
		odd(func(d *api.Deed) { d.Ver = 7 }), odd(func(d *api.Deed) { d.Kind, d.Ver = 3, 7 }), odd(func(d *api.Deed) { d.Tag = "x" }), odd(func(d *api.Deed) { d.Kind = 1 << 32 }),
	}
	return l
}

func TestDoOfDeedsThatMayNotBe(t *testing.T) {
	full, last := some(), some()
	full.Memos, full.Lows, last.Seq = asked(100, 1, 2, 3, 4, 5), [5]int64{}, top
	bad := some()
	bad.Seq = 7
	for _, s := range []api.State{{}, some(), greatest(), full, last, bad, {Seq: -1}, {Seq: top}} {
		for _, d := range oddDeeds() {
			does(t, fmt.Sprintf("the deed %+v", d), s, d, failed(api.ErrForm), stays)
		}
	}
	// one whose request was told, and one whose request is old
	does(t, "told, but it may not be", some(), by(put("B", ""), req(1, 5), 0), failed(api.ErrForm), stays)
	does(t, "old, but it may not be", some(), by(put("B", ""), req(1, 1), 0), failed(api.ErrForm), stays)
}

func TestDoToBooksThatMayNotBe(t *testing.T) {
	n := 0
	for _, x := range cases() {
		if x.may {
			continue
		}
		n++
		for _, d := range []api.Deed{put("b", "x"), del("k000"), purge("k000", 1), by(put("a", ""), req(1, 5), req(1, 5)), by(del("k001"), req(3, 1), 0), {}} {
			does(t, x.what, x.s, d, failed(api.ErrForm), stays)
		}
	}
	if n < 100 {
		t.Errorf("%d books alone", n)
	}
}

func TestDoAtTheLastNumber(t *testing.T) {
	s := some()
	s.Seq = top
	full := s
	full.Memos, full.Lows = asked(100, 1, 2), [5]int64{}
	for _, d := range []api.Deed{
		put("a", "x"), put("new", "x"), matched(put("a", ""), 2, "00000000"), del("a"), del("none"), purge("a", 2), purge("a", 3), by(put("a", ""), req(1, 4), req(1, 4)),
		by(put("a", ""), req(1, 5), 0), by(put("a", ""), req(1, 1), 0), by(put("a", ""), req(3, 7), 0), by(put("a", ""), req(1, 110), 0),
	} {
		does(t, fmt.Sprintf("Seq 2^40, %+v", d), s, d, failed(api.ErrFull), stays)
		does(t, fmt.Sprintf("Seq 2^40, 100 memos, %+v", d), full, d, failed(api.ErrFull), stays)
		does(t, fmt.Sprintf("Seq 2^40 of an empty book, %+v", d), api.State{Seq: top}, d, failed(api.ErrFull), stays)
	}
	r := api.Result{Ver: top}
	d := put("a", "x")
	does(t, "one ahead of 2^40", api.State{Seq: top - 1}, d, r, done(r, d, func(u *api.State) { u.L = []api.Entry{entry("a", there(top, "x"))} }))
	s.Seq = top - 1
	s.Memos = s.Memos[:4]
	does(t, "a Delete one ahead of 2^40", s, del("a"), r, done(r, d, func(u *api.State) { u.L[0].Vs = append(u.L[0].Vs, gone(top)) }))
	does(t, "old, one ahead of 2^40", s, by(d, req(1, 1), 0), failed(api.ErrOld), func(u *api.State) { u.Seq = top })
	does(t, "told, one ahead of 2^40", s, by(d, req(1, 5), 0), failed(api.ErrMatch), func(u *api.State) { u.Seq = top })
}

func TestDoBelowLows(t *testing.T) {
	for node := 1; node <= 5; node++ {
		s := api.State{Seq: 5, L: []api.Entry{entry("a", there(3, "body"))}}
		s.Lows[node-1] = req(node, 10)
		full := s
		full.Memos, full.Seq = asked(100, 1, 2, 3, 4, 5), 500
		for _, d := range []api.Deed{put("a", "x"), put("b", "x"), matched(put("a", ""), 1, ""), del("a"), del("b"), purge("a", 3), purge("a", 4)} {
			for _, n := range []int64{1, 2, 8, 9} {
				for _, low := range []int64{0, 1, req(node, n) - 1, req(node, n)} {
					does(t, fmt.Sprintf("old, of the node %d, %+v", node, by(d, req(node, n), low)), s, by(d, req(node, n), low), failed(api.ErrOld), counts)
					does(t, fmt.Sprintf("old, of the node %d, 100 memos", node), full, by(d, req(node, n), low), failed(api.ErrOld), counts)
				}
			}
		}
		for _, n := range []int64{10, 11, base - 1} {
			d := by(put("a", "x"), req(node, n), 0)
			r := api.Result{Ver: 6}
			does(t, fmt.Sprintf("at Lows or above, of the node %d", node), s, d, r, done(r, d, func(u *api.State) { u.L[0].Vs = append(u.L[0].Vs, there(6, "x")) }))
		}
		for other := 1; other <= 5; other++ {
			if other != node {
				d := by(put("a", "x"), req(other, 9), 0)
				r := api.Result{Ver: 6}
				does(t, fmt.Sprintf("below the Lows of the node %d alone", node), s, d, r, done(r, d, func(u *api.State) { u.L[0].Vs = append(u.L[0].Vs, there(6, "x")) }))
			}
		}
	}
}

func TestDoOfWhatWasTold(t *testing.T) {
	full := some()
	full.Seq, full.Memos, full.Lows = 500, asked(100, 1, 2, 3, 4, 5), [5]int64{}
	for _, s := range []api.State{some(), full} {
		for _, m := range s.Memos {
			for _, d := range []api.Deed{put("a", "one"), put("a", "x"), put("new", ""), matched(put("a", ""), 2, "00000000"), del("a"), del("none"), purge("a", 2), purge("a/b", 3), purge("a", 4)} {
				for _, low := range []int64{0, 1, m.Req - 1, m.Req} {
					does(t, fmt.Sprintf("told, %+v", by(d, m.Req, low)), s, by(d, m.Req, low), m.Res, counts)
				}
			}
		}
	}
	// the very same deed once more: its version is the one that it made
	d := put("new", "x")
	s, r := book.Do(some(), d)
	for n := range 3 {
		u, again := book.Do(s, d)
		if again != r || r != (api.Result{Ver: 61}) || u.Seq != int64(62+n) || len(u.Memos) != 7 || len(u.L) != 6 || len(u.L[4].Vs) != 1 {
			t.Errorf("P7.2: Do of the same deed again: %+v, %s", again, short(u))
		}
		s = u
	}
}

func TestDoWithAHundredMemos(t *testing.T) {
	for _, n := range []int{98, 99, 100} {
		for _, nodes := range [][]int{{1}, {3}, {1, 2, 3, 4}} {
			s := api.State{Seq: 20, L: []api.Entry{entry("a", there(3, "body"))}, Memos: asked(n, nodes...)}
			d := by(put("a", "x"), req(5, 1), 0)
			r := api.Result{Ver: 21}
			if n < 100 {
				does(t, fmt.Sprint(n, " memos"), s, d, r, done(r, d, func(u *api.State) { u.L[0].Vs = append(u.L[0].Vs, there(21, "x")) }))
				continue
			}
			for _, d := range []api.Deed{d, put("new", ""), del("a"), del("none"), matched(put("a", ""), 1, ""), purge("a", 3), purge("a", 4)} {
				for _, x := range []api.Deed{by(d, req(5, 1), 0), by(d, req(5, 1), req(5, 1)), by(d, req(1, 999), req(1, 999)), by(d, req(3, 999), req(3, 150)), by(d, req(1, 1), 0)} {
					does(t, fmt.Sprintf("100 memos of %v, %+v", nodes, x), s, x, failed(api.ErrFull), counts)
				}
			}
		}
	}
}

func TestPutOfANewKey(t *testing.T) {
	for _, n := range []int{0, 1, 2, 38, 39} {
		for k := range n + 1 {
			s := many(n)
			s.Seq = 70
			x := "0"
			if k > 0 {
				x = key(k-1) + "-"
			}
			for _, cond := range []int{0, 1} {
				d := matched(put(x, "body"), cond, "")
				r := api.Result{Ver: 71}
				does(t, fmt.Sprintf("a new key at %d of %d", k, n), s, d, r, done(r, d, func(u *api.State) { u.L = slices.Insert(u.L, k, entry(x, there(71, "body"))) }))
			}
			d := matched(put(x, "body"), 2, digits(""))
			does(t, "a new key, but it should have a mark", s, d, failed(api.ErrMatch), done(failed(api.ErrMatch), d, stays))
		}
	}
	for _, x := range []string{"0", "k000-", "k020-", "z"} {
		for cond, err := range []api.Errno{api.ErrFull, api.ErrFull, api.ErrMatch} {
			d := put(x, "body")
			if d.Cond = cond; cond == 2 {
				d.Tag = digits("body")
			}
			does(t, fmt.Sprint("40 other keys, condition ", cond), many(40), d, failed(err), done(failed(err), d, stays))
		}
	}
}

func TestPutOfAKeyThatIsThere(t *testing.T) {
	for _, others := range []int{0, 38, 39} {
		for _, n := range []int{1, 2, 10, 11, 12} {
			for _, now := range []api.Version{there(90, "body"), there(90, ""), gone(90)} {
				vs := versions(n, 90)
				vs[n-1] = now
				s := ofKey(others, vs)
				for _, x := range conditioned(now) {
					r, set := api.Result{Ver: 101}, func(u *api.State) {
						u.L[others/2].Vs = append(u.L[others/2].Vs, there(101, x.d.Body))
					}
					switch {
					case !x.holds:
						r, set = failed(api.ErrMatch), stays
					case n == 12:
						r, set = failed(api.ErrFull), stays
					}
					does(t, fmt.Sprintf("%d versions, the last one %+v, %d other keys, %+v", n, now, others, x.d), s, x.d, r, done(r, x.d, set))
				}
			}
		}
	}
}

// conditional is a DPut, and whether its condition holds.
type conditional struct {
	d     api.Deed
	holds bool
}

// conditioned are DPuts to the key with each condition, where the last version is now.
func conditioned(now api.Version) []conditional {
	return []conditional{
		{put("key", "new"), true},
		{put("key", ""), true},
		{put("key", now.Body), true},
		{put("key", xs(300)), true},
		{matched(put("key", "new"), 1, ""), now.Gone},
		{matched(put("key", ""), 1, ""), now.Gone},
		{matched(put("key", "new"), 2, digits("body")), !now.Gone && now.Body == "body"},
		{matched(put("key", "new"), 2, digits("")), !now.Gone && now.Body == ""},
		{matched(put("key", "new"), 2, digits("new")), false},
		{matched(put("key", "new"), 2, "00000000"), false},
		{matched(put("key", "v89"), 2, digits("v89")), false},
	}
}

func TestDelete(t *testing.T) {
	for _, others := range []int{0, 1, 38, 39, 40} {
		d := del("key")
		does(t, fmt.Sprint("a Delete of none, other keys: ", others), ofKey(others, nil), d, failed(api.ErrNone), done(failed(api.ErrNone), d, stays))
		for _, n := range []int{1, 2, 10, 11, 12} {
			for _, now := range []api.Version{there(90, "body"), there(100, ""), gone(90), gone(100)} {
				if others == 40 {
					continue
				}
				vs := versions(n, now.Ver)
				vs[n-1] = now
				r, set := api.Result{Ver: 101}, func(u *api.State) { u.L[others/2].Vs = append(u.L[others/2].Vs, gone(101)) }
				if n == 12 {
					r, set = failed(api.ErrFull), stays
				}
				does(t, fmt.Sprintf("a Delete of %d versions, the last one %+v, other keys: %d", n, now, others), ofKey(others, vs), d, r, done(r, d, set))
			}
		}
	}
}

func TestPurge(t *testing.T) {
	for _, others := range []int{0, 1, 38, 39, 40} {
		d := purge("key", 1)
		does(t, "a Purge of no entry", ofKey(others, nil), d, failed(api.ErrNone), done(failed(api.ErrNone), d, stays))
		for _, n := range []int{1, 2, 3, 11, 12} {
			if others == 40 {
				continue
			}
			vs := []api.Version{}
			for k := range n {
				vs = append(vs, []api.Version{there(int64(7*k+7), "x"), gone(int64(7*k + 7)), there(int64(7*k+7), "")}[k%3])
			}
			for ver := int64(1); ver <= int64(7*n+14); ver++ {
				purgeOne(t, ofKey(others, vs), others/2, ver)
			}
			for _, ver := range []int64{100, 101, base + 7, top} {
				purgeOne(t, ofKey(others, vs), others/2, ver)
			}
		}
	}
}

// purgeOne asks for a Purge of the entry at k, whose versions are each seventh one.
func purgeOne(t *testing.T, s api.State, k int, ver int64) {
	t.Helper()
	n := len(s.L[k].Vs)
	at := int(ver/7) - 1
	r, set := failed(api.ErrNone), stays
	switch {
	case ver%7 != 0 || ver > int64(7*n):
	case n == 1:
		r, set = api.Result{Ver: ver}, func(u *api.State) { u.L = slices.Delete(u.L, k, k+1) }
	default:
		r, set = api.Result{Ver: ver}, func(u *api.State) { u.L[k].Vs = slices.Delete(u.L[k].Vs, at, at+1) }
	}
	d := purge("key", ver)
	does(t, fmt.Sprintf("a Purge of %d, of %d versions", ver, n), s, d, r, done(r, d, set))
}

func TestPurgeOfAllAndPutAgain(t *testing.T) {
	s := api.State{}
	for k, x := range []struct {
		d    api.Deed
		want string
	}{
		{put("a", "1"), "[{a [{1 false 1}]}]"}, {put("a", "2"), "[{a [{1 false 1} {2 false 2}]}]"}, {del("a"), "[{a [{1 false 1} {2 false 2} {3 true }]}]"},
		{purge("a", 2), "[{a [{1 false 1} {3 true }]}]"}, {purge("a", 3), "[{a [{1 false 1}]}]"}, {purge("a", 1), "[]"}, {del("a"), "[]"},
		{matched(put("a", "3"), 1, ""), "[{a [{8 false 3}]}]"}, {purge("a", 8), "[]"}, {purge("a", 8), "[]"},
	} {
		u, r := book.Do(s, by(x.d, req(2, int64(k+1)), 0))
		if fmt.Sprint(u.L) != x.want || u.Seq != int64(k+1) || len(u.Memos) != k+1 || u.Memos[k].Res != r {
			t.Errorf("P7.2, %d: Do of %+v: %+v, %s", k, x.d, r, short(u))
		}
		s = u
	}
}

// ten is a book with ten memos of each node: its requests 1, 3 and so on, to 19.
func ten() api.State {
	s := api.State{Seq: 300, L: []api.Entry{entry("a", there(3, "body"))}}
	for node := 1; node <= 5; node++ {
		for n := int64(1); n <= 19; n += 2 {
			s.Memos = append(s.Memos, memo(req(node, n), 0, 7*n))
		}
	}
	return s
}

func TestMemosByRisingRequests(t *testing.T) {
	for node := 1; node <= 5; node++ {
		for n := int64(2); n <= 20; n += 2 {
			d := by(del("none"), req(node, n), 0)
			k := 10*(node-1) + int(n/2)
			does(t, fmt.Sprintf("the memo %d of the node %d", n, node), ten(), d, failed(api.ErrNone), func(u *api.State) {
				u.Seq++
				u.Memos = slices.Insert(u.Memos, k, memo(d.Req, api.ErrNone, 0))
			})
		}
	}
}

func TestLow(t *testing.T) {
	for node := 1; node <= 5; node++ {
		for _, had := range []int64{0, 1} {
			for low := int64(0); low <= 20; low++ {
				lowOf(t, node, had, req(node, low), low)
			}
			for other := range 6 {
				for _, n := range []int64{0, 1, 10, 20, base - 1} {
					if other < node {
						lowOf(t, node, had, req(other, n), 0)
					}
				}
			}
			lowOf(t, node, had, 0, 0)
			lowOf(t, node, had, 1, 0)
		}
	}
}

// lowOf asks for the 20th request of the node, with this Low, which is its request n (0: none of its own).
func lowOf(t *testing.T, node int, had, low, n int64) {
	t.Helper()
	s := ten()
	for k := range s.Lows {
		s.Lows[k] = req(k+1, 1)
	}
	s.Lows[node-1] = had * req(node, 1)
	for what, d := range map[string]api.Deed{"a Put": put("a", "x"), "an error": purge("a", 4)} {
		r, set := api.Result{Ver: 301}, func(u *api.State) { u.L[0].Vs = append(u.L[0].Vs, there(301, "x")) }
		if d.Kind == 3 {
			r, set = failed(api.ErrNone), stays
		}
		d = by(d, req(node, 20), low)
		does(t, fmt.Sprintf("%s with the Low %d of the node %d", what, low, node), s, d, r, func(u *api.State) {
			u.Seq++
			set(u)
			u.Memos = slices.Insert(u.Memos, 10*node, api.Memo{Req: d.Req, Res: r})
			if n > had {
				u.Lows[node-1] = low
				// those of 1, 3 and so on, below n
				u.Memos = slices.Delete(u.Memos, 10*(node-1), 10*(node-1)+int(n/2))
			}
		})
	}
}

func TestLowBelowLows(t *testing.T) {
	for node := 1; node <= 5; node++ {
		s := ten()
		s.Memos = slices.DeleteFunc(s.Memos, func(m api.Memo) bool { return m.Req/base == int64(node) && m.Req%base < 9 })
		s.Lows[node-1] = req(node, 9)
		for low := int64(0); low <= 9; low++ {
			d := by(del("none"), req(node, 9)+1, req(node, low))
			does(t, fmt.Sprintf("the Low %d, Lows 9, of the node %d", low, node), s, d, failed(api.ErrNone), func(u *api.State) {
				u.Seq++
				u.Memos = slices.Insert(u.Memos, 10*(node-1)+1, memo(d.Req, api.ErrNone, 0))
			})
		}
		d := by(del("none"), req(node, 10), req(node, 10))
		does(t, fmt.Sprintf("the Low 10, Lows 9, of the node %d", node), s, d, failed(api.ErrNone), func(u *api.State) {
			u.Seq++
			u.Lows[node-1] = req(node, 10)
			u.Memos[10*(node-1)] = memo(d.Req, api.ErrNone, 0)
		})
	}
}

func TestDoOfNilAndEmpty(t *testing.T) {
	d := put("a", "x")
	want := api.State{Seq: 1, L: []api.Entry{entry("a", there(1, "x"))}, Memos: []api.Memo{memo(d.Req, 0, 1)}}
	for _, s := range []api.State{{}, {L: []api.Entry{}, Memos: []api.Memo{}}, {L: some().L[:0], Memos: some().Memos[:0]}} {
		if got, r := book.Do(s, d); !same(got, want) || r != (api.Result{Ver: 1}) {
			t.Errorf("P7.2: Do of an empty book: %+v, %s", r, short(got))
		}
	}
}
