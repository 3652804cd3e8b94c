package word_test

import (
	"fmt"
	"math"
	"reflect"
	"slices"
	"strings"

	"armarium/api"
)

const (
	base = int64(1) << 32
	top  = int64(1) << 40
)

// req is the n-th request of the node.
func req(node int, n int64) int64 { return int64(node)*base + n }

func xs(n int) string { return strings.Repeat("x", n) }

// put, del and purge are deeds.
func put(key, body string, req int64) api.Deed {
	return api.Deed{Kind: 1, Key: key, Body: body, Req: req}
}

func del(key string, req int64) api.Deed { return api.Deed{Kind: 2, Key: key, Req: req} }

func purge(key string, ver, req int64) api.Deed {
	return api.Deed{Kind: 3, Key: key, Ver: ver, Req: req}
}

// puts are n deeds.
func puts(n int) []api.Deed {
	l := []api.Deed{}
	for k := range n {
		l = append(l, put(fmt.Sprint("k", k), fmt.Sprint("body ", k), req(1+k%5, int64(k+1))))
	}
	return l
}

func of(epoch int64, fresh int, l ...int) api.Roster {
	return api.Roster{Epoch: epoch, L: l, New: fresh}
}

// there and gone are versions.
func there(ver int64, body string) api.Version { return api.Version{Ver: ver, Body: body} }

func gone(ver int64) api.Version { return api.Version{Ver: ver, Gone: true} }

func entry(key string, vs ...api.Version) api.Entry { return api.Entry{Key: key, Vs: vs} }

func memo(req int64, err api.Errno, ver int64) api.Memo {
	return api.Memo{Req: req, Res: api.Result{Err: err, Ver: ver}}
}

// versions are n versions from the number first on.
func versions(n int, first int64) []api.Version {
	l := []api.Version{}
	for k := range n {
		l = append(l, there(first+int64(k), fmt.Sprint("v", k)))
	}
	return l
}

// many is a book of n keys with a version each.
func many(n int) api.State {
	s := api.State{Seq: int64(n)}
	for k := range n {
		s.L = append(s.L, entry(fmt.Sprintf("k%07d", k), there(int64(k+1), "body")))
	}
	return s
}

// asked are n memos of one node.
func asked(n int) []api.Memo {
	l := []api.Memo{}
	for k := range n {
		l = append(l, memo(req(3, int64(k+1)), api.Errno(k%14), int64(k%3)))
	}
	return l
}

// some is a word with something in each part, and nothing at its bounds.
func some() api.Word {
	return api.Word{
		Kind: 7, From: 2, To: 4, Epoch: 11, Seq: 22, Req: 33, Until: 44, Res: api.Result{Err: 6, Ver: 77}, Roster: of(88, 5, 3, 1, 5),
		Deeds: []api.Deed{
			{Kind: 1, Key: "a/b", Body: "one", Cond: 2, Tag: "0000abcd", Req: req(1, 5), Low: req(1, 3)},
			{Kind: 2, Key: "c", Req: req(2, 7), Low: 9},
			{Kind: 3, Key: "a/b", Ver: 12, Req: req(5, 1)},
		},
		State: api.State{
			Seq:   99,
			L:     []api.Entry{entry("a", there(3, "one"), gone(5)), entry("b/c", there(8, ",]#:x"), there(10, ""), there(98, "y"))},
			Memos: []api.Memo{memo(req(1, 4), 0, 3), memo(req(1, 9), 9, 0), memo(req(4, 7), 12, 98)},
			Lows:  [5]int64{req(1, 4), 0, req(3, 8), 0, 0},
		},
	}
}

// bare is a word that has nothing but its kind, and who says it to whom.
func bare(kind, from, to int) api.Word { return api.Word{Kind: kind, From: from, To: to} }

// told are words as the chief and the nodes say them.
func told() []api.Word {
	return []api.Word{
		{Kind: 1, From: 3, To: 0, Epoch: 4},
		{Kind: 2, From: 0, To: 5, Roster: of(4, 5, 1, 2, 5), Until: 17},
		{Kind: 3, From: 2, To: 1, Epoch: 4, Deeds: puts(1)},
		{Kind: 4, From: 1, To: 2, Epoch: 4, Seq: 9, Deeds: puts(6)},
		{Kind: 5, From: 2, To: 1, Epoch: 4, Seq: 9, Req: 1},
		{Kind: 6, From: 2, To: 1, Epoch: 4, Seq: 15},
		{Kind: 7, From: 5, To: 1, Epoch: 4, Req: req(1, 3), Res: api.Result{Err: 9}},
		{Kind: 8, From: 1, To: 5, Epoch: 4, Req: req(1, 4)},
		{Kind: 9, From: 5, To: 1, Epoch: 4, Req: req(1, 4), Seq: 15},
		{Kind: 10, From: 2, To: 5, Epoch: 4, State: some().State, Seq: 101, Deeds: puts(2)},
		{Kind: 11, From: 5, To: 0, Epoch: 4},
	}
}

// greatest is the longest word that there is.
func greatest() api.Word {
	w := api.Word{Kind: 11, From: 5, To: 4, Epoch: top, Seq: top, Req: top, Until: top, Res: api.Result{Err: 13, Ver: top}, Roster: of(top, 5, 1, 2, 3, 4, 5)}
	for k := range 60 {
		r := req(5, base-60+int64(k))
		w.Deeds = append(w.Deeds, api.Deed{Kind: 1, Key: strings.Repeat("k", 40), Body: strings.Repeat(string([]byte{byte(k)}), 300), Cond: 2, Tag: "fff0fff0", Req: r, Low: r})
	}
	w.State.Seq = top
	for k := range 40 {
		e := api.Entry{Key: strings.Repeat("z", 38) + fmt.Sprintf("%02d", k)}
		for v := range int64(12) {
			e.Vs = append(e.Vs, there(top-11+v, strings.Repeat(string([]byte{byte(200 + k)}), 300)))
		}
		w.State.L = append(w.State.L, e)
	}
	for k := range 100 {
		w.State.Memos = append(w.State.Memos, memo(req(1+k/20, base-20+int64(k%20)), 13, top))
	}
	for k := range w.State.Lows {
		w.State.Lows[k] = req(k+1, base-20)
	}
	return w
}

// clone is w in memory of its own.
func clone(w api.Word) api.Word {
	w.Roster.L, w.Deeds = slices.Clone(w.Roster.L), slices.Clone(w.Deeds)
	w.State.L, w.State.Memos = slices.Clone(w.State.L), slices.Clone(w.State.Memos)
	for k := range w.State.L {
		w.State.L[k].Vs = slices.Clone(w.State.L[k].Vs)
	}
	return w
}

// plain is w with nil in the place of each empty list.
func plain(w api.Word) api.Word {
	w = clone(w)
	w.Roster.L, w.Deeds = plainList(w.Roster.L), plainList(w.Deeds)
	w.State.L, w.State.Memos = plainList(w.State.L), plainList(w.State.Memos)
	for k := range w.State.L {
		w.State.L[k].Vs = plainList(w.State.L[k].Vs)
	}
	return w
}

func plainList[T any](l []T) []T {
	if len(l) == 0 {
		return nil
	}
	return l
}

// same is a second reckoning of Eq.
func same(a, b api.Word) bool { return reflect.DeepEqual(plain(a), plain(b)) }

// short is what a failure tells of a word.
func short(w api.Word) string { return fmt.Sprintf("%+.700q", fmt.Sprintf("%+v", w)) }

// turn is something that is done to some, and whether it may be then.
type turn struct {
	what string
	set  func(w *api.Word)
	may  bool
}

func (x turn) word() api.Word {
	w := some()
	x.set(&w)
	return w
}

// turns are all of them: no two come to the same word, and none to some itself.
func turns() []turn {
	return slices.Concat(kindTurns(), endTurns(), numberTurns(), errTurns(), rosterTurns(), deedsTurns(), deedTurns(), bookTurns(), bookPartTurns())
}

func kindTurns() []turn {
	l := []turn{}
	for _, kind := range []int{math.MinInt, -1 << 32, -7, -1, 0, 1, 2, 3, 4, 5, 6, 8, 9, 10, 11, 12, 13, 256 + 7, 1<<16 + 7, 1<<32 + 7, math.MaxInt} {
		l = append(l, turn{fmt.Sprint("Kind ", kind), func(w *api.Word) { w.Kind = kind }, 1 <= kind && kind <= 11})
	}
	return l
}

// endTurns have each two of some numbers as From and To.
func endTurns() []turn {
	l := []turn{}
	ends := []int{math.MinInt, -1, 0, 1, 2, 3, 4, 5, 6, 256 + 2, 1<<32 + 2, 1<<32 + 4, math.MaxInt}
	for _, from := range ends {
		for _, to := range ends {
			if from != 2 || to != 4 {
				may := 0 <= from && from <= 5 && 0 <= to && to <= 5 && from != to
				l = append(l, turn{fmt.Sprint("From ", from, ", To ", to), func(w *api.Word) { w.From, w.To = from, to }, may})
			}
		}
	}
	return l
}

func numberTurns() []turn {
	l := []turn{}
	for _, x := range []struct {
		what string
		at   func(w *api.Word) *int64
	}{
		{"Epoch", func(w *api.Word) *int64 { return &w.Epoch }},
		{"Seq", func(w *api.Word) *int64 { return &w.Seq }},
		{"Req", func(w *api.Word) *int64 { return &w.Req }},
		{"Until", func(w *api.Word) *int64 { return &w.Until }},
		{"Res.Ver", func(w *api.Word) *int64 { return &w.Res.Ver }},
	} {
		for _, n := range []int64{math.MinInt64, -top, -base, -1, 0, 1, 9, 10, 255, 256, base - 1, base, base + 11, top - 1, top, top + 1, 2 * top, 1 << 62, math.MaxInt64} {
			l = append(l, turn{fmt.Sprint(x.what, " ", n), func(w *api.Word) { *x.at(w) = n }, 0 <= n && n <= top})
		}
	}
	return l
}

func errTurns() []turn {
	l := []turn{}
	for _, err := range []api.Errno{math.MinInt64, -256, -1, 0, 1, 2, 3, 4, 5, 7, 8, 9, 10, 11, 12, 13, 14, 15, 256, 256 + 6, 1<<32 + 6, math.MaxInt64} {
		l = append(l, turn{fmt.Sprint("Res.Err ", err), func(w *api.Word) { w.Res.Err = err }, 0 <= err && err <= 13})
	}
	return l
}

func rosterTurns() []turn {
	l := []turn{}
	for _, x := range []struct {
		r   api.Roster
		may bool
	}{
		{api.Roster{}, true}, {of(1, 0, 1), true}, {of(1, 0, 5), true}, {of(top, 0, 2), true}, {of(88, 0, 3, 1, 5), true}, {of(89, 5, 3, 1, 5), true}, {of(88, 1, 3, 5, 1), true},
		{of(88, 5, 1, 3, 5), true}, {of(88, 5, 3, 5), true}, {of(88, 5, 3, 1, 2, 4, 5), true}, {of(1, 2, 1, 2), true}, {of(top, 4, 5, 4), true}, {of(1, 0, 5, 4, 3, 2, 1), true},
		// Zero but for a part.
		{of(1, 0), false}, {of(top, 0), false}, {of(-1, 0), false}, {of(0, 1), false}, {of(0, 5), false}, {of(0, -1), false}, {of(0, 0, 1), false}, {of(0, 0, 0), false}, {of(0, 0, 1, 2), false},
		// The epoch.
		{of(0, 5, 3, 1, 5), false}, {of(-1, 5, 3, 1, 5), false}, {of(top+1, 5, 3, 1, 5), false}, {of(math.MinInt64, 5, 3, 1, 5), false}, {of(math.MaxInt64, 5, 3, 1, 5), false},
		// The nodes.
		{of(88, 0), false}, {of(88, 5), false}, {of(88, 0, 0), false}, {of(88, 0, 6), false}, {of(88, 0, -1), false}, {of(88, 5, 3, 0, 5), false}, {of(88, 5, 3, 6, 5), false}, {of(88, 5, 6, 1, 5), false},
		{of(88, 5, 3, -1, 5), false}, {of(88, 0, 3, 1, 6), false}, {of(88, 0, 3, 1, 0), false}, {of(88, 5, 3, 3, 5), false}, {of(88, 5, 3, 1, 3, 5), false}, {of(88, 0, 1, 1), false}, {of(88, 5, 5, 1, 5), false},
		{of(88, 0, 1, 2, 3, 4, 5, 1), false}, {of(88, 6, 1, 2, 3, 4, 5, 6), false}, {of(88, 5, 3, 1<<32+1, 5), false}, {of(88, 5, 3, 256+1, 5), false}, {of(88, 0, math.MaxInt), false}, {of(88, 0, math.MinInt), false},
		{of(88, 0, make([]int, 256)...), false},
		// New.
		{of(88, 3, 3, 1, 5), false}, {of(88, 1, 3, 1, 5), false}, {of(88, 2, 3, 1, 5), false}, {of(88, 6, 3, 1, 5), false}, {of(88, -1, 3, 1, 5), false}, {of(88, 5, 5), false}, {of(88, 1<<32+5, 3, 1, 5), false},
		{of(88, 1<<32, 3, 1, 5), false},
	} {
		l = append(l, turn{fmt.Sprintf("Roster %.60s", fmt.Sprint(x.r)), func(w *api.Word) { w.Roster = x.r }, x.may})
	}
	return l
}

// deedsTurns have other numbers of deeds, another order, and one among many that may not be.
func deedsTurns() []turn {
	l := []turn{
		{"the first deed alone", func(w *api.Word) { w.Deeds = w.Deeds[:1] }, true},
		{"the last deed alone", func(w *api.Word) { w.Deeds = w.Deeds[2:] }, true},
		{"without the first deed", func(w *api.Word) { w.Deeds = w.Deeds[1:] }, true},
		{"without the last deed", func(w *api.Word) { w.Deeds = w.Deeds[:2] }, true},
		{"without the middle deed", func(w *api.Word) { w.Deeds = slices.Delete(w.Deeds, 1, 2) }, true},
		{"deeds the other way round", func(w *api.Word) { slices.Reverse(w.Deeds) }, true},
		{"two deeds the other way round", func(w *api.Word) { w.Deeds[0], w.Deeds[1] = w.Deeds[1], w.Deeds[0] }, true},
		{"the last deed twice", func(w *api.Word) { w.Deeds = append(w.Deeds, w.Deeds[2]) }, true},
		{"the first deed twice", func(w *api.Word) { w.Deeds = append(w.Deeds[:1:1], w.Deeds...) }, true},
		{"one deed 60 times", func(w *api.Word) { w.Deeds = slices.Repeat(w.Deeds[:1], 60) }, true},
		{"one deed 61 times", func(w *api.Word) { w.Deeds = slices.Repeat(w.Deeds[:1], 61) }, false},
		{"a zero deed behind", func(w *api.Word) { w.Deeds = append(w.Deeds, api.Deed{}) }, false},
		{"a zero deed ahead", func(w *api.Word) { w.Deeds = append([]api.Deed{{}}, w.Deeds...) }, false},
		{"a zero deed alone", func(w *api.Word) { w.Deeds = []api.Deed{{}} }, false},
	}
	for _, n := range []int{0, 1, 2, 6, 7, 59, 60, 61, 62, 120, 256, 256 + 3, 1000} {
		l = append(l, turn{fmt.Sprint(n, " deeds"), func(w *api.Word) { w.Deeds = puts(n) }, n <= 60})
		for _, k := range []int{0, n / 2, n - 1} {
			if n > 2 && n <= 60 {
				l = append(l, turn{fmt.Sprint(n, " deeds, no key at ", k), func(w *api.Word) { w.Deeds = puts(n); w.Deeds[k].Key = "" }, false})
				l = append(l, turn{fmt.Sprint(n, " deeds, no request at ", k), func(w *api.Word) { w.Deeds = puts(n); w.Deeds[k].Req = base }, false})
			}
		}
	}
	return l
}

// deedTurns turn one part of one deed.
func deedTurns() []turn {
	l := []turn{}
	for k, kind := range []string{"DPut", "DDelete", "DPurge"} {
		add := func(what string, set func(d *api.Deed), may ...int) {
			l = append(l, turn{kind + ", " + what, func(w *api.Word) { set(&w.Deeds[k]) }, slices.Contains(may, k+1)})
		}
		add("Kind -1", func(d *api.Deed) { d.Kind = -1 })
		add("Kind 0", func(d *api.Deed) { d.Kind = 0 })
		add("Kind 4", func(d *api.Deed) { d.Kind = 4 })
		add("Kind and 2^32", func(d *api.Deed) { d.Kind += 1 << 32 })
		add("another key", func(d *api.Deed) { d.Key = "z" }, 1, 2, 3)
		add("a key of 40", func(d *api.Deed) { d.Key = xs(40) }, 1, 2, 3)
		add("a key of 41", func(d *api.Deed) { d.Key = xs(41) })
		add("no key", func(d *api.Deed) { d.Key = "" })
		add("no letter of keys", func(d *api.Deed) { d.Key = "A" })
		add("a body", func(d *api.Deed) { d.Body = "two" }, 1)
		add("a body of 300", func(d *api.Deed) { d.Body = xs(300) }, 1)
		add("a body of 301", func(d *api.Deed) { d.Body = xs(301) })
		add("Ver -1", func(d *api.Deed) { d.Ver = -1 })
		add("Ver 1", func(d *api.Deed) { d.Ver = 1 }, 3)
		add("Ver 2^40", func(d *api.Deed) { d.Ver = top }, 3)
		add("Ver 2^40 + 1", func(d *api.Deed) { d.Ver = top + 1 })
		add("Cond 1", func(d *api.Deed) { d.Cond, d.Tag = 1, "" }, 1)
		add("Cond 1 with a tag", func(d *api.Deed) { d.Cond, d.Tag = 1, "00000001" })
		add("Cond 2 with another tag", func(d *api.Deed) { d.Cond, d.Tag = 2, "00000002" }, 1)
		add("Cond 2 without a tag", func(d *api.Deed) { d.Cond, d.Tag = 2, "" })
		add("Cond 2 with no tag that is", func(d *api.Deed) { d.Cond, d.Tag = 2, "0000ABCD" })
		add("Cond 3", func(d *api.Deed) { d.Cond, d.Tag = 3, "" })
		add("another request", func(d *api.Deed) { d.Req = req(5, base-1) }, 1, 2, 3)
		add("no request", func(d *api.Deed) { d.Req = 0 })
		add("none's request", func(d *api.Deed) { d.Req = req(6, 1) })
		add("Low 1", func(d *api.Deed) { d.Low = 1 }, 1, 2, 3)
		add("Low is Req", func(d *api.Deed) { d.Low = d.Req }, 1, 2, 3)
		add("Low above Req", func(d *api.Deed) { d.Low = d.Req + 1 })
		add("Low -1", func(d *api.Deed) { d.Low = -1 })
	}
	return append(l,
		turn{"DPut, no condition", func(w *api.Word) { w.Deeds[0].Cond, w.Deeds[0].Tag = 0, "" }, true},
		turn{"DPut, no condition with a tag", func(w *api.Word) { w.Deeds[0].Cond = 0 }, false},
		turn{"DPut, no body", func(w *api.Word) { w.Deeds[0].Body = "" }, true},
		turn{"DPurge, Ver 0", func(w *api.Word) { w.Deeds[2].Ver = 0 }, false},
		turn{"DPut, Low 0", func(w *api.Word) { w.Deeds[0].Low = 0 }, true},
		turn{"DDelete, Low 0", func(w *api.Word) { w.Deeds[1].Low = 0 }, true},
	)
}

// bookTurns have another book in the place of some's.
func bookTurns() []turn {
	l := []turn{}
	add := func(what string, s api.State, may bool) {
		l = append(l, turn{"a book, " + what, func(w *api.Word) { w.State = s }, may})
	}
	add("zero", api.State{}, true)
	add("of nothing but Seq", api.State{Seq: 1}, true)
	add("of nothing but the greatest Seq", api.State{Seq: top}, true)
	add("of nothing but a Seq too great", api.State{Seq: top + 1}, false)
	add("of nothing but a Seq below 0", api.State{Seq: -1}, false)
	add("of nothing but a memo", api.State{Memos: []api.Memo{memo(req(2, 1), 5, 0)}}, true)
	add("of nothing but a memo without a request", api.State{Memos: []api.Memo{{}}}, false)
	add("of nothing but Lows", api.State{Lows: [5]int64{0, 0, 0, 0, req(5, 1)}}, true)
	add("of nothing but Lows of another node", api.State{Lows: [5]int64{0, 0, 0, req(5, 1), 0}}, false)
	add("of nothing but an entry", api.State{L: []api.Entry{entry("a", there(1, ""))}}, false)
	add("of nothing but a zero entry", api.State{L: []api.Entry{{}}}, false)
	for _, n := range []int{1, 39, 40, 41, 80, 296} {
		add(fmt.Sprint("of ", n, " keys"), many(n), n <= 40)
	}
	for _, n := range []int{1, 99, 100, 101, 200, 356} {
		add(fmt.Sprint("of ", n, " memos"), api.State{Seq: 50, Memos: asked(n)}, n <= 100)
	}
	return l
}

// bookPartTurns turn one part of the book.
func bookPartTurns() []turn {
	l := []turn{}
	add := func(what string, may bool, set func(s *api.State)) {
		l = append(l, turn{"the book, " + what, func(w *api.Word) { set(&w.State) }, may})
	}
	add("Seq 98", true, func(s *api.State) { s.Seq = 98 })
	add("Seq 97", false, func(s *api.State) { s.Seq = 97 })
	add("Seq 2^40", true, func(s *api.State) { s.Seq = top })
	add("Seq 2^40 + 1", false, func(s *api.State) { s.Seq = top + 1 })
	add("Seq -1", false, func(s *api.State) { s.Seq = -1 })
	add("another key", true, func(s *api.State) { s.L[0].Key = "aa" })
	add("another second key", true, func(s *api.State) { s.L[1].Key = "b" })
	add("keys that fall", false, func(s *api.State) { s.L[0].Key = "c" })
	add("a key twice", false, func(s *api.State) { s.L[0].Key = "b/c" })
	add("no key", false, func(s *api.State) { s.L[0].Key = "" })
	add("entries the other way round", false, func(s *api.State) { slices.Reverse(s.L) })
	add("without the first entry", true, func(s *api.State) { s.L = s.L[1:] })
	add("without the last entry", true, func(s *api.State) { s.L = s.L[:1] })
	add("without entries", true, func(s *api.State) { s.L = nil })
	add("an entry more", true, func(s *api.State) { s.L = append(s.L, entry("d", gone(1))) })
	add("an entry without versions", false, func(s *api.State) { s.L[0].Vs = nil })
	add("without a version", true, func(s *api.State) { s.L[1].Vs = s.L[1].Vs[1:] })
	add("without the last version", true, func(s *api.State) { s.L[1].Vs = s.L[1].Vs[:2] })
	add("versions the other way round", false, func(s *api.State) { slices.Reverse(s.L[1].Vs) })
	add("12 versions", true, func(s *api.State) { s.L[1].Vs = versions(12, 80) })
	add("13 versions", false, func(s *api.State) { s.L[1].Vs = versions(13, 80) })
	add("another Ver", true, func(s *api.State) { s.L[0].Vs[0].Ver = 2 })
	add("Ver 0", false, func(s *api.State) { s.L[0].Vs[0].Ver = 0 })
	add("a Ver above Seq", false, func(s *api.State) { s.L[1].Vs[2].Ver = 100 })
	add("one that is not gone", true, func(s *api.State) { s.L[0].Vs[1].Gone = false })
	add("one that is gone", true, func(s *api.State) { s.L[1].Vs[1].Gone = true })
	add("one that is gone, with a body", false, func(s *api.State) { s.L[0].Vs[0].Gone = true })
	add("another body", true, func(s *api.State) { s.L[0].Vs[0].Body = "two" })
	add("a body of 300", true, func(s *api.State) { s.L[0].Vs[0].Body = xs(300) })
	add("a body of 301", false, func(s *api.State) { s.L[0].Vs[0].Body = xs(301) })
	add("without the first memo", true, func(s *api.State) { s.Memos = s.Memos[1:] })
	add("without the last memo", true, func(s *api.State) { s.Memos = s.Memos[:2] })
	add("without memos", true, func(s *api.State) { s.Memos = nil })
	add("a memo twice", false, func(s *api.State) { s.Memos = append(s.Memos, s.Memos[2]) })
	add("memos the other way round", false, func(s *api.State) { slices.Reverse(s.Memos) })
	add("another request of a memo", true, func(s *api.State) { s.Memos[1].Req++ })
	add("no request of a memo", false, func(s *api.State) { s.Memos[1].Req = req(2, 0) })
	add("a memo below Lows", false, func(s *api.State) { s.Memos[0].Req-- })
	add("another error of a memo", true, func(s *api.State) { s.Memos[2].Res.Err = 13 })
	add("no error of a memo", false, func(s *api.State) { s.Memos[2].Res.Err = 14 })
	add("another version of a memo", true, func(s *api.State) { s.Memos[2].Res.Ver = 99 })
	add("a version of a memo above Seq", false, func(s *api.State) { s.Memos[2].Res.Ver = 100 })
	for k := range 5 {
		add(fmt.Sprint("another Low at ", k), true, func(s *api.State) { s.Lows[k] = req(k+1, 2) })
		add(fmt.Sprint("a Low of none at ", k), false, func(s *api.State) { s.Lows[k] = 7 })
	}
	add("no Low at 0", true, func(s *api.State) { s.Lows[0] = 0 })
	add("no Low at 2", true, func(s *api.State) { s.Lows[2] = 0 })
	add("Lows moved", false, func(s *api.State) { s.Lows[0], s.Lows[2] = s.Lows[2], s.Lows[0] })
	return l
}

// empties are words that are some but for lists that have no element: nil ones in the first, empty ones in the second.
func empties() [][2]api.Word {
	l := [][2]api.Word{}
	for _, w := range []api.Word{some(), bare(1, 2, 0), {}} {
		for _, set := range []func(w *api.Word, room bool){
			func(w *api.Word, room bool) { w.Roster = api.Roster{L: none[int](room)} },
			func(w *api.Word, room bool) { w.Roster = api.Roster{Epoch: 3, L: none[int](room)} },
			func(w *api.Word, room bool) { w.Deeds = none[api.Deed](room) },
			func(w *api.Word, room bool) { w.State.L = none[api.Entry](room) },
			func(w *api.Word, room bool) { w.State.Memos = none[api.Memo](room) },
			func(w *api.Word, room bool) {
				w.State = api.State{L: none[api.Entry](room), Memos: none[api.Memo](room)}
			},
			func(w *api.Word, room bool) { w.State.L = []api.Entry{entry("a", none[api.Version](room)...)} },
			func(w *api.Word, room bool) {
				w.State.L = []api.Entry{entry("a", there(1, "")), entry("b", none[api.Version](room)...)}
			},
			func(w *api.Word, room bool) {
				w.Roster, w.Deeds, w.State = api.Roster{L: none[int](room)}, none[api.Deed](room), api.State{L: none[api.Entry](room), Memos: none[api.Memo](room)}
			},
		} {
			x := [2]api.Word{clone(w), clone(w)}
			set(&x[0], false)
			set(&x[1], true)
			l = append(l, x)
		}
	}
	return l
}

// none is a list without an element: nil, or an empty one with room.
func none[T any](room bool) []T {
	if room {
		return make([]T, 3)[:0]
	}
	return nil
}
