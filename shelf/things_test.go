package shelf_test

import (
	"fmt"
	"slices"
	"strings"

	"armarium/api"
	"armarium/deed"
)

const (
	base = int64(1) << 32
	top  = int64(1) << 40
)

// xs is a text of n letters.
func xs(n int) string { return strings.Repeat("x", n) }

// all is a body of 300 bytes that has every byte there is.
func all() string {
	b := make([]byte, 300)
	for k := range b {
		b[k] = byte(k * 7)
	}
	return string(b)
}

// req is the n-th request of the node.
func req(node int, n int64) int64 { return int64(node)*base + n }

func put(n int64, key, body string) api.Deed {
	return api.Deed{Kind: api.DPut, Key: key, Body: body, Req: req(1, n)}
}

func del(n int64, key string) api.Deed {
	return api.Deed{Kind: api.DDelete, Key: key, Req: req(2, n)}
}

func purge(n int64, key string, ver int64) api.Deed {
	return api.Deed{Kind: api.DPurge, Key: key, Ver: ver, Req: req(3, n)}
}

func lowered(d api.Deed, low int64) api.Deed {
	d.Low = low
	return d
}

func matched(d api.Deed, cond int, tag string) api.Deed {
	d.Cond, d.Tag = cond, tag
	return d
}

// puts are n deeds of keys of their own.
func puts(n int) []api.Deed {
	l := []api.Deed{}
	for k := range n {
		l = append(l, put(int64(k+1), fmt.Sprintf("k%d", k), fmt.Sprint("body ", k)))
	}
	return l
}

// mays are deeds that may be, at their edges.
func mays() []api.Deed {
	return []api.Deed{
		put(1, "a", ""), put(2, "a", "x"), put(3, "-", xs(300)), put(4, xs(40), all()), put(base-1, "a.b-c_d/9", ",]#\x00\xff"),
		matched(put(5, "a", "y"), api.CAbsent, ""), matched(put(6, "a", "y"), api.CMatch, deed.Tag("x")), matched(put(7, "a", "z"), api.CMatch, "00000000"),
		lowered(put(8, "b", ""), 1), lowered(put(9, "b", "1"), req(1, 9)), lowered(put(10, "b", "2"), 3),
		del(1, "a"), del(base-1, xs(40)), lowered(del(2, "none"), req(2, 2)), {Kind: api.DDelete, Key: "a", Req: req(5, base-1)},
		purge(1, "a", 1), purge(2, xs(40), top), lowered(purge(3, "b", 2), req(3, 1)),
	}
}

// mayNots are deeds that may not be, each for one fault.
func mayNots() []api.Deed {
	l := []api.Deed{{}}
	for _, d := range []api.Deed{put(7, "key", "body"), del(7, "key"), purge(7, "key", 5)} {
		for _, set := range []func(d *api.Deed){
			func(d *api.Deed) { d.Kind = 0 }, func(d *api.Deed) { d.Kind = 4 }, func(d *api.Deed) { d.Kind = -1 }, func(d *api.Deed) { d.Kind += 1 << 32 },
			func(d *api.Deed) { d.Key = "" }, func(d *api.Deed) { d.Key = xs(41) }, func(d *api.Deed) { d.Key = "Key" }, func(d *api.Deed) { d.Key = "a b" },
			func(d *api.Deed) { d.Body = xs(301) }, func(d *api.Deed) { d.Ver = -1 }, func(d *api.Deed) { d.Ver = top + 1 },
			func(d *api.Deed) { d.Cond = 3 }, func(d *api.Deed) { d.Cond = -1 }, func(d *api.Deed) { d.Cond = api.CMatch }, func(d *api.Deed) { d.Tag = "00000000" },
			func(d *api.Deed) { d.Cond, d.Tag = api.CMatch, "0000000" }, func(d *api.Deed) { d.Cond, d.Tag = api.CMatch, "ffffffff" },
			func(d *api.Deed) { d.Req = 0 }, func(d *api.Deed) { d.Req = -7 }, func(d *api.Deed) { d.Req = base }, func(d *api.Deed) { d.Req = 6*base + 1 },
			func(d *api.Deed) { d.Low = -1 }, func(d *api.Deed) { d.Low = d.Req + 1 },
		} {
			x := d
			set(&x)
			l = append(l, x)
		}
	}
	l = append(l, put(1, "a", ""), del(1, "a"), del(1, "a"), purge(1, "a", 0), purge(1, "a", 1))
	k := len(l) - 5
	l[k].Ver, l[k+1].Body, l[k+2].Cond, l[k+4].Body = 1, "x", api.CAbsent, "x"
	return l
}

// clone is s in memory of its own.
func clone(s api.State) api.State {
	s.L, s.Memos = slices.Clone(s.L), slices.Clone(s.Memos)
	for k := range s.L {
		s.L[k].Vs = slices.Clone(s.L[k].Vs)
	}
	return s
}

func there(ver int64, body string) api.Version { return api.Version{Ver: ver, Body: body} }

func gone(ver int64) api.Version { return api.Version{Ver: ver, Gone: true} }

func entry(key string, vs ...api.Version) api.Entry { return api.Entry{Key: key, Vs: vs} }

func memo(req int64, err api.Errno, ver int64) api.Memo {
	return api.Memo{Req: req, Res: api.Result{Err: err, Ver: ver}}
}

// some is a book with something of everything.
func some() api.State {
	return api.State{
		Seq: 70,
		L:   []api.Entry{entry("a", there(2, "one"), gone(5)), entry("a/b", there(3, "x"), there(60, "last")), entry("c", there(9, all()))},
		Memos: []api.Memo{
			memo(req(1, 40), api.OK, 60), memo(req(1, 41), api.ErrMatch, 0), memo(req(2, 9), api.ErrLost, 70), memo(req(5, base-1), api.ErrFull, 0),
		},
		Lows: [5]int64{req(1, 40), req(2, 1), 0, 0, req(5, 3)},
	}
}

// greatest is a book with as much as one may have.
func greatest(seq int64) api.State {
	s := api.State{Seq: seq}
	for k := range 40 {
		e := entry(fmt.Sprintf("%02d", k) + xs(38))
		for n := range int64(12) {
			e.Vs = append(e.Vs, there(seq-11+n, all()))
		}
		s.L = append(s.L, e)
	}
	for k := range int64(100) {
		s.Memos = append(s.Memos, memo(req(int(k/20)+1, base-20+k%20), api.OK, seq))
	}
	for k := range s.Lows {
		s.Lows[k] = req(k+1, base-20)
	}
	return s
}

// books are books that may be, all below Seq 1,000.
func books() map[string]api.State {
	return map[string]api.State{
		"nothing": {}, "a Seq": {Seq: 7}, "some": some(), "as much as may be": greatest(900),
		"empty lists": {Seq: 1, L: []api.Entry{}, Memos: []api.Memo{}}, "memos alone": {Seq: 3, Memos: []api.Memo{memo(req(4, 1), api.OK, 3)}},
		"Lows alone": {Lows: [5]int64{0, 0, req(3, 8), 0, 0}}, "one key": {Seq: 9, L: []api.Entry{entry("key", there(9, ""))}},
	}
}

// noBooks are books that may not be, each for one fault.
func noBooks() map[string]api.State {
	l := map[string]api.State{}
	for what, set := range map[string]func(s *api.State){
		"a Seq below 0": func(s *api.State) { *s = api.State{Seq: -1} }, "a Seq below all": func(s *api.State) { *s = api.State{Seq: -1 << 63} },
		"a Seq too great": func(s *api.State) { s.Seq = top + 1 }, "the greatest Seq": func(s *api.State) { s.Seq = 1<<63 - 1 },
		"a Ver above Seq": func(s *api.State) { s.L[1].Vs[1].Ver = 71 }, "a Ver 0": func(s *api.State) { s.L[0].Vs[0].Ver = 0 },
		"Vers that do not rise": func(s *api.State) { s.L[1].Vs[1].Ver = 3 }, "keys that do not rise": func(s *api.State) { s.L[0], s.L[1] = s.L[1], s.L[0] },
		"a key twice": func(s *api.State) { s.L[0].Key = "a/b" }, "no key": func(s *api.State) { s.L[0].Key = "" }, "a wrong key": func(s *api.State) { s.L[2].Key = "c d" },
		"no versions": func(s *api.State) { s.L[2].Vs = nil }, "too long a body": func(s *api.State) { s.L[1].Vs[0].Body = xs(301) },
		"one that is gone, with a body": func(s *api.State) { s.L[0].Vs[1].Body = "x" },
		"13 versions": func(s *api.State) {
			s.L[2].Vs = nil
			for k := range int64(13) {
				s.L[2].Vs = append(s.L[2].Vs, there(k+1, ""))
			}
		},
		"41 keys": func(s *api.State) {
			s.L = nil
			for k := range 41 {
				s.L = append(s.L, entry(fmt.Sprint("k", k+10), there(1, "")))
			}
		},
		"101 memos": func(s *api.State) {
			s.Memos = nil
			for k := range int64(101) {
				s.Memos = append(s.Memos, memo(req(3, k+1), 0, 0))
			}
		},
		"a memo of nobody": func(s *api.State) { s.Memos[0].Req = base }, "memos that do not rise": func(s *api.State) { s.Memos[0], s.Memos[1] = s.Memos[1], s.Memos[0] },
		"a memo below Lows": func(s *api.State) { s.Lows[0]++ }, "a memo's error below 0": func(s *api.State) { s.Memos[0].Res.Err = -1 },
		"a memo's error of none": func(s *api.State) { s.Memos[0].Res.Err = 14 }, "a memo's Ver above Seq": func(s *api.State) { s.Memos[2].Res.Ver = 71 },
		"a memo's Ver below 0": func(s *api.State) { s.Memos[2].Res.Ver = -1 }, "a Low of another node": func(s *api.State) { s.Lows[3] = req(3, 1) },
		"a Low of nobody": func(s *api.State) { s.Lows[2] = 5 },
	} {
		s := some()
		set(&s)
		l[what] = s
	}
	return l
}
