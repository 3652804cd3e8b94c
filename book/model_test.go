package book_test

import (
	"fmt"
	"maps"
	"math/rand"
	"slices"
	"testing"

	"armarium/api"
	"armarium/book"
	"armarium/deed"
)

// model is a second reckoning of Do: a book by maps.
type model struct {
	seq   int64
	keys  map[string]map[int64]api.Version
	memos map[int64]api.Result
	lows  map[int]int64
}

func modelOf(s api.State) *model {
	m := &model{s.Seq, map[string]map[int64]api.Version{}, map[int64]api.Result{}, map[int]int64{}}
	for _, e := range s.L {
		m.keys[e.Key] = map[int64]api.Version{}
		for _, v := range e.Vs {
			m.keys[e.Key][v.Ver] = v
		}
	}
	for _, x := range s.Memos {
		m.memos[x.Req] = x.Res
	}
	for k, low := range s.Lows {
		m.lows[k+1] = low
	}
	return m
}

// book is the model as a book.
func (m *model) book() api.State {
	s := api.State{Seq: m.seq}
	for _, key := range slices.Sorted(maps.Keys(m.keys)) {
		e := api.Entry{Key: key}
		for _, ver := range slices.Sorted(maps.Keys(m.keys[key])) {
			e.Vs = append(e.Vs, m.keys[key][ver])
		}
		s.L = append(s.L, e)
	}
	for _, r := range slices.Sorted(maps.Keys(m.memos)) {
		s.Memos = append(s.Memos, api.Memo{Req: r, Res: m.memos[r]})
	}
	for node, low := range m.lows {
		s.Lows[node-1] = low
	}
	return s
}

// do is the chapter's words once more, of a book and a deed that may be.
func (m *model) do(d api.Deed) api.Result {
	if m.seq == top {
		return api.Result{Err: api.ErrFull}
	}
	m.seq++
	node := whose(d.Req)
	told, is := m.memos[d.Req]
	switch {
	case d.Req < m.lows[node]:
		return api.Result{Err: api.ErrOld}
	case is:
		return told
	case len(m.memos) == 100:
		return api.Result{Err: api.ErrFull}
	}
	err, ver := m.change(d)
	m.memos[d.Req] = api.Result{Err: err, Ver: ver}
	if whose(d.Low) == node && d.Low > m.lows[node] {
		m.lows[node] = d.Low
		maps.DeleteFunc(m.memos, func(r int64, _ api.Result) bool { return whose(r) == node && r < d.Low })
	}
	return api.Result{Err: err, Ver: ver}
}

// change is what comes of d to its key.
func (m *model) change(d api.Deed) (api.Errno, int64) {
	vs := m.keys[d.Key]
	if d.Kind == 3 {
		if _, is := vs[d.Ver]; !is {
			return api.ErrNone, 0
		}
		delete(vs, d.Ver)
		if len(vs) == 0 {
			delete(m.keys, d.Key)
		}
		return api.OK, d.Ver
	}
	v := api.Version{Ver: m.seq, Gone: true}
	if d.Kind == 1 {
		v = api.Version{Ver: m.seq, Body: d.Body}
		if !holds(vs, d.Cond, d.Tag) {
			return api.ErrMatch, 0
		}
	}
	switch {
	case d.Kind == 2 && len(vs) == 0:
		return api.ErrNone, 0
	case len(vs) == 12, len(vs) == 0 && len(m.keys) == 40:
		return api.ErrFull, 0
	case len(vs) == 0:
		m.keys[d.Key] = map[int64]api.Version{}
	}
	m.keys[d.Key][m.seq] = v
	return api.OK, m.seq
}

// holds is a second reckoning of tome.Holds, of the conditions that a deed may have.
func holds(vs map[int64]api.Version, cond int, tag string) bool {
	last := gone(0)
	for ver, v := range vs {
		if ver > last.Ver {
			last = v
		}
	}
	return cond == 0 || cond == 1 && last.Gone || cond == 2 && !last.Gone && digits(last.Body) == tag
}

// digits is the mark of s, reckoned by ints.
func digits(s string) string {
	a, b := 0, 1
	for _, x := range []byte(s) {
		a, b = (3*a+(65521-5)*b+int(x)+1)%65521, (5*a+3*b)%65521
	}
	return fmt.Sprintf("%04x%04x", a, b)
}

// modelled is what the model says of Do, of any book and deed.
func modelled(s api.State, d api.Deed) (api.State, api.Result) {
	if !allowed(s) || !deed.May(d) {
		return s, api.Result{Err: api.ErrForm}
	}
	m := modelOf(s)
	r := m.do(d)
	return m.book(), r
}

// likeModel asks that Do of s and d is what the model says, that s stays, and that what comes of it may be.
func likeModel(t *testing.T, s api.State, d api.Deed) api.State {
	t.Helper()
	was := clone(s)
	want, result := modelled(s, d)
	got, r := book.Do(s, d)
	if !same(got, want) || r != result {
		t.Fatalf("P7.2: Do of %+v to %s: %+v, %s; not %+v, %s", d, short(s), r, short(got), result, short(want))
	}
	if !same(s, was) {
		t.Fatalf("P7.2: Do of %+v to %s: it does not stay: %s", d, short(was), short(s))
	}
	if book.May(got) != allowed(s) {
		t.Fatalf("P7.1: May behind Do of %+v to %s: %t", d, short(s), !allowed(s))
	}
	return got
}

// random makes deeds: most of them good, of few keys and requests, so that they meet.
type random struct {
	*rand.Rand
	keys  int
	nodes int
	asks  [6]int64
}

func (r *random) pick(l ...string) string { return l[r.Intn(len(l))] }

// request is most often the node's next one, else one that was ahead of it, or far behind it.
func (r *random) request() (int64, int64) {
	node := 1 + r.Intn(r.nodes)
	n := r.asks[node]
	switch r.Intn(8) {
	case 0:
		n = 1 + r.Int63n(n+3)
	case 1:
		n += 1 + r.Int63n(5)
		fallthrough
	default:
		n++
		r.asks[node] = n
	}
	low := max(0, n-r.Int63n(40))
	if r.Intn(3) > 0 {
		low = 0
	} else if r.Intn(9) > 0 {
		low = req(node, max(0, low))
	} else {
		low = req(r.Intn(node+1), max(0, low))
	}
	return req(node, n), min(low, req(node, n))
}

func (r *random) deed(s api.State) api.Deed {
	d := api.Deed{Kind: 1 + r.Intn(3), Key: key(r.Intn(r.keys))}
	d.Req, d.Low = r.request()
	bodies := []string{"", "a", "b", "c"}
	switch {
	case d.Kind == 1:
		d.Body, d.Cond = r.pick(bodies...), r.Intn(3)
		if d.Cond == 2 {
			d.Tag = digits(r.pick(bodies...))
		}
	case d.Kind == 3:
		d.Ver = 1 + r.Int63n(s.Seq+2)
		if len(s.L) > 0 && r.Intn(3) > 0 {
			e := s.L[r.Intn(len(s.L))]
			d.Key, d.Ver = e.Key, e.Vs[r.Intn(len(e.Vs))].Ver
		}
	}
	if r.Intn(20) == 0 {
		d.Low = d.Req + 1
	}
	return d
}

func TestDoLikeTheModel(t *testing.T) {
	told := map[api.Errno]int{}
	for seed := range int64(240) {
		r := &random{Rand: rand.New(rand.NewSource(seed)), keys: []int{2, 5, 45}[seed%3], nodes: 1 + int(seed/3)%5}
		s := api.State{}
		if seed%5 == 4 {
			s.Seq = top - 100
		}
		for range 200 {
			d := r.deed(s)
			_, result := modelled(s, d)
			told[result.Err]++
			s = likeModel(t, s, d)
		}
		back(t, fmt.Sprint("behind the sequence ", seed), s)
	}
	for _, err := range []api.Errno{api.OK, api.ErrForm, api.ErrFull, api.ErrNone, api.ErrMatch, api.ErrOld} {
		if told[err] < 50 {
			t.Errorf("the error %d was told %d times alone", err, told[err])
		}
	}
}

// ofKey is a book with n other keys, half of them ahead of the key and half of them behind it, and these versions of it.
func ofKey(n int, vs []api.Version) api.State {
	s := api.State{Seq: 100}
	for k := range n {
		x := "a" + key(k)
		if k >= n/2 {
			x = "z" + key(k)
		}
		s.L = append(s.L, entry(x, there(int64(k+1), "other")))
	}
	if len(vs) > 0 {
		s.L = slices.Insert(s.L, n/2, entry("key", vs...))
	}
	return s
}

// keyed are books with a key's versions in each way that matters, among few keys and many.
func keyed() []api.State {
	l := []api.State{}
	for _, others := range []int{0, 1, 38, 39, 40} {
		l = append(l, ofKey(others, nil))
		for _, n := range []int{1, 2, 11, 12} {
			if others < 40 {
				vs := versions(n, 90)
				vs[n-1] = there(90, "body")
				l = append(l, ofKey(others, vs))
				vs = versions(n, 100)
				vs[n-1] = gone(100)
				l = append(l, ofKey(others, vs))
			}
		}
	}
	return l
}

// deeds are deeds of each kind to the key, by the request r.
func deeds(r, low int64) []api.Deed {
	l := []api.Deed{
		{Kind: 1, Body: "new"}, {Kind: 1}, {Kind: 1, Body: xs(300)}, {Kind: 1, Body: "new", Cond: 1}, {Kind: 1, Body: "new", Cond: 2, Tag: digits("body")},
		{Kind: 1, Body: "new", Cond: 2, Tag: digits("other")}, {Kind: 1, Body: "new", Cond: 2, Tag: digits("")}, {Kind: 2},
	}
	for _, ver := range []int64{1, 78, 79, 80, 85, 89, 90, 95, 99, 100, 101, 102, top} {
		l = append(l, api.Deed{Kind: 3, Ver: ver})
	}
	for k := range l {
		l[k].Key, l[k].Req, l[k].Low = "key", r, low
	}
	return l
}

func TestDoOfEachKindLikeTheModel(t *testing.T) {
	for _, s := range keyed() {
		if !allowed(s) {
			t.Fatalf("it may not be: %s", short(s))
		}
		for _, seq := range []int64{100, top - 1, top} {
			s.Seq = seq
			for _, d := range deeds(req(3, 50), 0) {
				likeModel(t, s, d)
				d.Key = "none"
				likeModel(t, s, d)
			}
		}
	}
}

// remembered are memos of the node, n in all with others', and Lows.
func remembered(s api.State, node, n int, low int64) api.State {
	s.Memos = nil
	each := (n + 4) / 5
	for k := range n {
		s.Memos = append(s.Memos, memo(req(1+k/each, int64(40+k%each)), api.Errno(k%14), int64(k)))
	}
	s.Lows = [5]int64{}
	if low > 0 {
		s.Lows[node-1] = req(node, low)
	}
	s.Lows[node%5] = req(node%5+1, 33)
	return s
}

func TestDoWithMemosLikeTheModel(t *testing.T) {
	one := ofKey(2, []api.Version{there(50, "body"), gone(60), there(90, "body")})
	for node := 1; node <= 5; node++ {
		for _, n := range []int{0, 1, 15, 99, 100} {
			for _, low := range []int64{0, 30, 40} {
				s := remembered(one, node, n, low)
				if !allowed(s) {
					t.Fatalf("it may not be: %s", short(s))
				}
				for _, asked := range []int64{1, 29, 30, 38, 39, 40, 41, 45, 59, 60, 61, base - 1} {
					for _, l := range []int64{0, 7, req(1, 1), req(1, 70), req(node, 0), req(node, 1), req(node, 29), req(node, 30), req(node, 31), req(node, 40), req(node, 41), req(node, 45), req(node, 60), req(node, asked-1), req(node, asked), req(node, asked+1), req(node+1, 1)} {
						for _, k := range []int{0, 5, 14} {
							likeModel(t, s, deeds(req(node, asked), l)[k])
						}
					}
				}
			}
		}
	}
}

func TestDoToAllCasesLikeTheModel(t *testing.T) {
	for _, x := range cases() {
		for _, d := range []api.Deed{
			{}, {Kind: 1, Key: "k001", Body: "x", Req: req(3, 1<<30)}, {Kind: 2, Key: "k001", Req: req(4, 2), Low: req(4, 2)},
			{Kind: 3, Key: "k000", Ver: 1, Req: req(5, base-1), Low: req(5, 120)}, {Kind: 1, Key: "k001", Req: req(3, 1), Low: req(3, 2)}, {Kind: 1, Key: "K", Req: req(1, 5)},
		} {
			likeModel(t, x.s, d)
		}
	}
}
