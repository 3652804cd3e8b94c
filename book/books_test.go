package book_test

import (
	"fmt"
	"math"
	"regexp"
	"slices"
	"strings"

	"armarium/api"
)

const (
	base = int64(1) << 32
	top  = int64(1) << 40
)

// req is the n-th request of the node.
func req(node int, n int64) int64 { return int64(node)*base + n }

// xs is a text of n letters.
func xs(n int) string { return strings.Repeat("x", n) }

// there and gone are versions.
func there(ver int64, body string) api.Version { return api.Version{Ver: ver, Body: body} }

func gone(ver int64) api.Version { return api.Version{Ver: ver, Gone: true} }

func entry(key string, vs ...api.Version) api.Entry { return api.Entry{Key: key, Vs: vs} }

func memo(req int64, err api.Errno, ver int64) api.Memo {
	return api.Memo{Req: req, Res: api.Result{Err: err, Ver: ver}}
}

// clone is s in memory of its own.
func clone(s api.State) api.State {
	s.L, s.Memos = slices.Clone(s.L), slices.Clone(s.Memos)
	for k := range s.L {
		s.L[k].Vs = slices.Clone(s.L[k].Vs)
	}
	return s
}

// same is a second reckoning of Eq.
func same(a, b api.State) bool {
	if len(a.L) != len(b.L) || len(a.Memos) != len(b.Memos) {
		return false
	}
	for k, e := range a.L {
		if e.Key != b.L[k].Key || !slices.Equal(e.Vs, b.L[k].Vs) {
			return false
		}
	}
	for k, m := range a.Memos {
		if m != b.Memos[k] {
			return false
		}
	}
	return a.Seq == b.Seq && a.Lows == b.Lows
}

// short is what a failure tells of a book.
func short(s api.State) string { return fmt.Sprintf("%+.600q", fmt.Sprintf("%+v", s)) }

// all is each byte once.
func all() string {
	b := make([]byte, 256)
	for k := range b {
		b[k] = byte(k)
	}
	return string(b)
}

// some is a book with something of everything.
func some() api.State {
	return api.State{
		Seq: 60,
		L: []api.Entry{
			entry("a", there(2, "one"), gone(5)),
			entry("a/b", there(3, "x"), there(9, ""), there(60, "last")),
			entry("b", gone(7)),
			entry("c.d", there(11, all()), gone(12), gone(13), there(14, "4"), there(20, "5"), there(21, xs(300))),
			entry("z_9", there(1, ",]#:0")),
		},
		Memos: []api.Memo{
			memo(req(1, 4), 0, 2), memo(req(1, 5), 9, 0), memo(req(1, 9), 0, 60), memo(req(2, 7), 6, 0),
			memo(req(5, 1), 13, 44), memo(req(5, base-1), 5, 1),
		},
		Lows: [5]int64{req(1, 4), 0, req(3, 8), 0, req(5, 1)},
	}
}

// key is the k-th key of books of many.
func key(k int) string { return fmt.Sprintf("k%03d", k) }

// many is a book of n keys with a version each.
func many(n int) api.State {
	s := api.State{Seq: int64(n)}
	for k := range n {
		s.L = append(s.L, entry(key(k), there(int64(k+1), fmt.Sprint("body ", k))))
	}
	return s
}

// versions are n versions up to the number last; each third one says that it is gone.
func versions(n int, last int64) []api.Version {
	l := []api.Version{}
	for k := range n {
		ver := last - int64(n-1-k)
		if k%3 == 1 {
			l = append(l, gone(ver))
		} else {
			l = append(l, there(ver, fmt.Sprint("v", ver)))
		}
	}
	return l
}

// asked are n memos, as many as can be of each of the nodes.
func asked(n int, nodes ...int) []api.Memo {
	l := []api.Memo{}
	for k := range n {
		node := nodes[k*len(nodes)/n]
		l = append(l, memo(req(node, int64(100+k)), api.Errno(k%14), int64(k%3)))
	}
	return l
}

// greatest is the book that has most of all that may be.
func greatest() api.State {
	s := api.State{Seq: top}
	for k := range 40 {
		e := api.Entry{Key: strings.Repeat("z", 38) + fmt.Sprintf("%02d", k)}
		for v := range int64(12) {
			e.Vs = append(e.Vs, there(top-11+v, strings.Repeat(string([]byte{byte(k)}), 300)))
		}
		s.L = append(s.L, e)
	}
	for k := range 100 {
		s.Memos = append(s.Memos, memo(req(1+k/20, base-20+int64(k%20)), 13, top))
	}
	for k := range s.Lows {
		s.Lows[k] = req(k+1, base-20)
	}
	return s
}

// kase is a book, and whether it may be.
type kase struct {
	what string
	s    api.State
	may  bool
}

// cases are books at all their edges and beyond.
func cases() []kase {
	l := []kase{{"the zero book", api.State{}, true}, {"some", some(), true}, {"the greatest", greatest(), true}}
	return slices.Concat(l, seqs(), lengths(), keys(), oddEntries(), highVersions(), memoCounts(), requests(), results(), lows())
}

func seqs() []kase {
	l := []kase{}
	for _, seq := range []int64{math.MinInt64, -top, -1, 0, 1, 2, 59, 60, 61, base, top - 1, top, top + 1, 2 * top, math.MaxInt64} {
		l = append(l, kase{fmt.Sprint("empty, Seq ", seq), api.State{Seq: seq}, 0 <= seq && seq <= top})
		s := some()
		s.Seq = seq
		l = append(l, kase{fmt.Sprint("some, Seq ", seq), s, 60 <= seq && seq <= top})
		s.Memos = nil
		l = append(l, kase{fmt.Sprint("some without memos, Seq ", seq), s, 60 <= seq && seq <= top})
		s = some()
		s.Seq, s.L = seq, nil
		l = append(l, kase{fmt.Sprint("some without entries, Seq ", seq), s, 60 <= seq && seq <= top})
	}
	return l
}

func lengths() []kase {
	l := []kase{{"an empty list of entries", api.State{Seq: 3, L: []api.Entry{}}, true}}
	for _, n := range []int{0, 1, 2, 39, 40, 41, 42, 80, 256, 296, 1000} {
		l = append(l, kase{fmt.Sprint(n, " keys"), many(n), n <= 40})
		s := many(n)
		s.Seq = 2000
		for k := range s.L {
			s.L[k].Vs = versions(12, 2000)
		}
		l = append(l, kase{fmt.Sprint(n, " keys of twelve versions"), s, n <= 40})
	}
	return l
}

// ofKeys is a book of these keys, in this order.
func ofKeys(keys ...string) api.State {
	s := many(len(keys))
	for k, x := range keys {
		s.L[k].Key = x
	}
	return s
}

func keys() []kase {
	l := []kase{
		{"keys by bytes", ofKeys("-", ".", "/", "0", "9", "_", "a", "a-", "a.", "a/", "a/b", "a0", "a_", "aa", "ab", "b", "z"), true},
		{"a key behind a longer one", ofKeys("a/b", "a"), false},
		{"digits behind letters", ofKeys("a", "9"), false},
		{"the first one again", ofKeys("a", "b", "c", "a"), false},
		{"one that is twice", ofKeys("a", "a"), false},
	}
	for _, n := range []int{2, 3, 7, 40} {
		for _, k := range []int{1, n / 2, n - 1} {
			s := many(n)
			s.L[k].Key = s.L[k-1].Key
			l = append(l, kase{fmt.Sprintf("%d keys, the same at %d", n, k), s, false})
			s = many(n)
			s.L[k-1], s.L[k] = s.L[k], s.L[k-1]
			l = append(l, kase{fmt.Sprintf("%d keys, falling at %d", n, k), s, false})
			s = many(n)
			s.L[k].Key = s.L[k-1].Key + "x"
			l = append(l, kase{fmt.Sprintf("%d keys, just rising at %d", n, k), s, true})
		}
		s := many(n)
		slices.Reverse(s.L)
		l = append(l, kase{fmt.Sprint(n, " keys, falling"), s, false})
	}
	return l
}

// oddEntries are books with one entry that is none, its key at its place among the others.
func oddEntries() []kase {
	vs := versions
	l := []kase{{"the empty key", ofKeys("", "a"), false}}
	for _, n := range []int{1, 3, 40} {
		for _, k := range []int{0, n / 2, n - 1} {
			for _, x := range []struct {
				key string
				vs  []api.Version
				may bool
			}{
				{"", nil, false}, {"", []api.Version{}, false}, {"", vs(1, 9), true}, {"", vs(12, 40), true}, {"", vs(13, 40), false}, {"", vs(24, 40), false},
				{"", vs(5, 5), true}, {"", vs(5, 4), false}, {"", vs(1, 0), false}, {"", vs(1, -3), false},
				{"", []api.Version{there(4, ""), there(4, "")}, false}, {"", []api.Version{there(4, ""), there(3, "")}, false},
				{"", []api.Version{there(1, ""), there(5, ""), there(4, ""), there(6, "")}, false}, {"", []api.Version{there(1, ""), there(5, ""), gone(5)}, false},
				{"", []api.Version{there(4, xs(300))}, true}, {"", []api.Version{there(4, xs(301)), gone(5)}, false},
				{"", []api.Version{gone(4)}, true}, {"", []api.Version{{Ver: 4, Gone: true, Body: "x"}}, false},
				{"+", vs(1, 9), false}, {" ", vs(1, 9), false}, {"K", vs(1, 9), false}, {"\x00", vs(1, 9), false}, {xs(36), vs(1, 9), true}, {xs(37), vs(1, 9), false},
			} {
				s := many(n)
				s.Seq = 50
				s.L[k] = entry(key(k)+x.key, x.vs...)
				l = append(l, kase{fmt.Sprintf("%d entries, at %d %.60q", n, k, fmt.Sprint(s.L[k])), s, x.may})
			}
		}
	}
	return l
}

// highVersions are books with a version at their Seq, and one above.
func highVersions() []kase {
	l := []kase{}
	for _, n := range []int{1, 2, 3, 40} {
		for _, k := range []int{0, n / 2, n - 1} {
			for _, seq := range []int64{41, 100, top - 1, top} {
				for _, count := range []int{1, 2, 12} {
					for more, may := range map[int64]bool{-1: true, 0: true, 1: false, 2: false} {
						s := many(n)
						s.Seq, s.L[k].Vs = seq, versions(count, seq+more)
						l = append(l, kase{fmt.Sprintf("%d entries, Seq %d, at %d %d versions to %d more", n, seq, k, count, more), s, may})
					}
				}
			}
		}
	}
	return l
}

func memoCounts() []kase {
	l := []kase{{"an empty list of memos", api.State{Seq: 3, Memos: []api.Memo{}}, true}}
	for _, n := range []int{0, 1, 2, 99, 100, 101, 102, 200, 256, 356} {
		for _, nodes := range [][]int{{1}, {3}, {5}, {1, 2}, {2, 3, 4}, {1, 2, 3, 4, 5}} {
			l = append(l, kase{fmt.Sprint(n, " memos of ", nodes), api.State{Seq: 3, Memos: asked(n, nodes...)}, n <= 100})
		}
	}
	return l
}

func requests() []kase {
	l := []kase{}
	add := func(may bool, reqs ...int64) {
		s := api.State{Seq: 9}
		for _, r := range reqs {
			s.Memos = append(s.Memos, memo(r, 0, 9))
		}
		l = append(l, kase{fmt.Sprint("memos of ", reqs), s, may})
	}
	for node := 1; node <= 5; node++ {
		for _, n := range []int64{1, 2, 1 << 31, base - 1} {
			add(true, req(node, n))
		}
		add(true, req(node, 5), req(node, 6))
		add(false, req(node, 5), req(node, 5))
		add(false, req(node, 6), req(node, 5))
		add(false, req(node, 0))
		add(false, req(1, 1), req(node, 0))
		add(true, req(node, 1), req(node, 4), req(node, 1<<31), req(node, base-1))
		add(false, req(node, 1), req(node, 4), req(node, 1<<31), req(node, 4))
		add(false, req(node, 1), req(node, 4), req(node, 3), req(node, 9))
		for other := 1; other <= 5; other++ {
			if other != node {
				add(other > node, req(node, 7), req(other, 3))
				add(other > node, req(node, 3), req(other, 7))
			}
		}
	}
	for _, r := range []int64{math.MinInt64, -base - 1, -1, 0, 1, 7, base - 1, base, 6 * base, 6*base + 1, 7*base + 7, top, top + 1, math.MaxInt64} {
		add(false, r)
		add(false, r, req(5, 3))
		add(false, req(1, 3), r)
		add(false, req(1, 3), r, req(5, 3))
	}
	return append(l, requestsAtLows()...)
}

// requestsAtLows are books with a memo near its node's Lows, and with Lows of others.
func requestsAtLows() []kase {
	l := []kase{}
	for node := 1; node <= 5; node++ {
		for _, others := range []int64{0, 1, 10, 11, 5000, base - 1} {
			for n, may := range map[int64]bool{1: false, 8: false, 9: false, 10: true, 11: true, base - 1: true} {
				s := api.State{Seq: 3, Memos: []api.Memo{memo(req(node, n), 0, 3)}}
				for k := range s.Lows {
					if others > 0 {
						s.Lows[k] = req(k+1, others)
					}
				}
				s.Lows[node-1] = req(node, 10)
				l = append(l, kase{fmt.Sprintf("the memo %d of the node %d, Lows at 10, others at %d", n, node, others), s, may})
				s.Memos = append(slices.Clip(s.Memos), memo(req(node, base-1), 0, 3))
				if n < base-1 {
					l = append(l, kase{fmt.Sprintf("the memo %d of the node %d, and one more, Lows at 10, others at %d", n, node, others), s, may})
				}
			}
		}
	}
	return l
}

// results are books with each place of their memos at its edges.
func results() []kase {
	l := []kase{}
	for _, n := range []int{1, 2, 5, 100} {
		for _, k := range []int{0, n / 2, n - 1} {
			with := func(err api.Errno, ver int64, may bool) {
				s := api.State{Seq: 60, Memos: asked(n, 1, 2, 4)}
				s.Memos[k].Res = api.Result{Err: err, Ver: ver}
				l = append(l, kase{fmt.Sprintf("%d memos, at %d error %d, Ver %d", n, k, err, ver), s, may})
			}
			for err := range api.Errno(14) {
				with(err, 0, true)
				with(err, 60, true)
			}
			for _, err := range []api.Errno{math.MinInt, -256, -2, -1, 14, 15, 256, 1 << 32, math.MaxInt} {
				with(err, 0, false)
				with(err, 60, false)
			}
			for ver, may := range map[int64]bool{math.MinInt64: false, -60: false, -1: false, 0: true, 1: true, 59: true, 60: true, 61: false, 62: false, top: false, math.MaxInt64: false} {
				with(0, ver, may)
				with(13, ver, may)
			}
		}
	}
	return l
}

func lows() []kase {
	l := []kase{}
	for k := range 5 {
		good := []int64{0, req(k+1, 1), req(k+1, 7), req(k+1, base-1)}
		bad := []int64{req(k+1, 0), req(k+2, 0), -req(k+1, 7), math.MinInt64, -1, 1, 7, base, 6 * base, 6*base + 1, top, math.MaxInt64}
		for node := range 7 {
			if node != k+1 {
				bad = append(bad, req(node, 1), req(node, 7), req(node, base-1))
			}
		}
		for n, low := range append(good, bad...) {
			s := api.State{Seq: 60}
			s.Lows[k] = low
			l = append(l, kase{fmt.Sprintf("Lows of %d: %d", k, low), s, n < len(good)})
			s.L = some().L
			s.Lows = greatest().Lows
			s.Lows[k] = low
			l = append(l, kase{fmt.Sprintf("Lows of %d: %d, others too", k, low), s, n < len(good)})
		}
	}
	return l
}

var keyPattern = regexp.MustCompile(`\A[a-z0-9._/-]{1,40}\z`)

// allowed is a second reckoning of May: the chapter's words once more, by each two of a list.
func allowed(s api.State) bool {
	ok := s.Seq >= 0 && s.Seq < top+1 && len(s.L) < 41 && len(s.Memos) < 101
	for k, e := range s.L {
		ok = ok && entryAllowed(e, s.Seq)
		for _, f := range s.L[:k] {
			ok = ok && f.Key < e.Key
		}
	}
	for k, m := range s.Memos {
		node := whose(m.Req)
		ok = ok && node > 0 && !(m.Req < s.Lows[(node+4)%5]) && m.Res.Err > -1 && m.Res.Err < 14 && m.Res.Ver > -1 && m.Res.Ver < s.Seq+1
		for _, n := range s.Memos[:k] {
			ok = ok && n.Req < m.Req
		}
	}
	for k, low := range s.Lows {
		ok = ok && (low == 0 || whose(low) == k+1)
	}
	return ok
}

func entryAllowed(e api.Entry, seq int64) bool {
	ok := keyPattern.MatchString(e.Key) && len(e.Vs) > 0 && len(e.Vs) < 13
	for k, v := range e.Vs {
		for _, w := range e.Vs[:k] {
			ok = ok && w.Ver < v.Ver
		}
		ok = ok && v.Ver > 0 && v.Ver < top+1 && v.Ver <= seq && len(v.Body) < 301 && (v == gone(v.Ver) || v == there(v.Ver, v.Body))
	}
	return ok
}

// whose is a second reckoning of deed.Home.
func whose(r int64) int {
	for node := 1; node <= 5; node++ {
		if req(node, 0) < r && r < req(node+1, 0) {
			return node
		}
	}
	return 0
}
