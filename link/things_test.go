package link_test

import (
	"fmt"
	"reflect"
	"slices"
	"strings"
	"testing"

	"armarium/api"
	"armarium/book"
	"armarium/link"
	"armarium/roll"
	"armarium/shelf"
)

const (
	base = int64(1) << 32
	top  = int64(1) << 40
	// epoch and until are those of the leases that placed gives.
	epoch = int64(7)
	until = int64(20)
	// room is how many bytes a chest has where nothing else is said.
	room = 1 << 18
)

// req is the n-th request of the node.
func req(node int, n int64) int64 { return int64(node)*base + n }

func put(key, body string, req int64) api.Deed {
	return api.Deed{Kind: api.DPut, Key: key, Body: body, Req: req}
}

// nth is the deed at that place of an order of deeds, the first of which is 1. They are of all kinds and of all nodes, and
// all sorts of things come of them.
func nth(k int) api.Deed {
	d := put(fmt.Sprint("k", k%30), fmt.Sprint("body ", k), req(1+k%5, int64(k)))
	switch k % 7 {
	case 3:
		d.Cond = api.CAbsent
	case 4:
		d.Kind, d.Body, d.Key = api.DDelete, "", fmt.Sprint("k", (k-2)%30)
	case 5:
		d.Kind, d.Body, d.Key, d.Ver = api.DPurge, "", fmt.Sprint("k", (k-3)%30), int64(k-3)
	case 6:
		d.Cond, d.Tag = api.CMatch, "0000abcd"
	}
	return d
}

// deeds are those of that order behind the one at the place q, n of them.
func deeds(q, n int) []api.Deed {
	l := []api.Deed{}
	for k := range n {
		l = append(l, nth(q+k+1))
	}
	return l
}

// others are deeds that are not of that order.
func others(n int) []api.Deed {
	l := []api.Deed{}
	for k := range n {
		l = append(l, put(fmt.Sprint("other", k), "", req(1+k%5, int64(1000+k))))
	}
	return l
}

func of(epoch int64, fresh int, l ...int) api.Roster {
	return api.Roster{Epoch: epoch, L: l, New: fresh}
}

// known is what one can see of a replica, but Done.
type known struct {
	Book               api.State
	Pend               []api.Deed
	Seq, Epoch, Learnt int64
	Down               bool
	Roster             api.Roster
	Until              int64
}

func (k known) add(l ...api.Deed) known {
	k.Pend, k.Seq = slices.Concat(k.Pend, l), k.Seq+int64(len(l))
	return k
}

// commit is k with its first n deeds done, and what came of them.
func (k known) commit(n int) (known, []api.Result) {
	l := []api.Result{}
	for _, d := range k.Pend[:n] {
		s, r := book.Do(k.Book, d)
		k.Book, l = s, append(l, r)
	}
	k.Pend = k.Pend[n:]
	return k, l
}

// replica is a link, and what it stands on.
type replica struct {
	*link.Link
	id    int
	chest *roll.Chest
}

func (r replica) known() known {
	s := r.Shelf()
	return known{s.Book(), s.Pend(), s.Seq(), s.Epoch(), s.Learnt(), s.Down(), r.Roster(), r.Until()}
}

// open is a replica on that chest.
func open(t testing.TB, id int, c *roll.Chest) replica {
	t.Helper()
	s, err := shelf.Open(c)
	if err != api.OK {
		t.Fatalf("shelf.Open: error %d", err)
	}
	return replica{link.New(id, s), id, c}
}

// fall is the replica that comes up behind a fall, of which that much of what was not pressed stays.
func (r replica) fall(t testing.TB, n int) replica {
	t.Helper()
	return open(t, r.id, r.chest.Tear(n))
}

// lease has the chief give a lease.
func (r replica) lease(x api.Roster, until, now int64) []api.Word {
	return r.Step(api.Word{Kind: api.WLease, To: r.id, Roster: x, Until: until}, now)
}

// made is a replica of no roster that has done the first deeds of the order, and has waits more behind them.
func made(t testing.TB, id, done, waits int) replica {
	t.Helper()
	r := open(t, id, roll.New(room))
	for k := range done + waits {
		if err := r.Shelf().Add(nth(k + 1)); err != api.OK {
			t.Fatalf("shelf.Add: error %d", err)
		}
		if k < done {
			if _, err := r.Shelf().Commit(int64(k + 1)); err != api.OK {
				t.Fatalf("shelf.Commit: error %d", err)
			}
		}
	}
	return r
}

// at is a replica with that book, and the order's deeds that wait behind it; of no roster.
func at(t testing.TB, id int, s api.State, waits int) replica {
	t.Helper()
	r := open(t, id, roll.New(room))
	if err := r.Shelf().Learn(s, deeds(0, waits)); err != api.OK {
		t.Fatalf("shelf.Learn: error %d", err)
	}
	return r
}

// placed gives r a lease of that chain, up to until.
func placed(r replica, fresh int, l ...int) replica {
	r.lease(of(epoch, fresh, l...), until, 0)
	r.Done()
	return r
}

// learnt is a replica that has learnt in epoch, as the new one of that chain.
func learnt(t testing.TB, done int, l ...int) replica {
	t.Helper()
	r := made(t, l[len(l)-1], done, 0)
	if r.Shelf().Enter(epoch) != api.OK || r.Shelf().Learn(r.Shelf().Book(), nil) != api.OK {
		t.Fatal("shelf.Learn")
	}
	return placed(r, r.id, l...)
}

// place is where a replica may stand.
type place struct {
	what string
	make func(done, waits int) replica
}

// places are all of them: the ones of the chains 3, 1, 4; of 3, 1, 5, where 5 is new; of 2 alone; and of none. At a tail
// nothing waits; but at the new one it does.
func places(t testing.TB) []place {
	chain := func(id, fresh int, l ...int) func(int, int) replica {
		return func(done, waits int) replica { return placed(made(t, id, done, waits), fresh, l...) }
	}
	return []place{
		{"the head", chain(3, 0, 3, 1, 4)},
		{"the middle", chain(1, 0, 3, 1, 4)},
		{"the tail", chain(4, 0, 3, 1, 4)},
		{"alone", chain(2, 0, 2)},
		{"the head of two", chain(3, 0, 3, 4)},
		{"ahead of the new one", chain(1, 5, 3, 1, 5)},
		{"far ahead of the new one", chain(3, 5, 3, 1, 5)},
		{"the new one", chain(5, 5, 3, 1, 5)},
		{"the new one that has learnt", func(done, waits int) replica { return learnt(t, done+waits, 3, 1, 5) }},
		{"of no roster", func(done, waits int) replica { return made(t, 2, done, waits) }},
	}
}

// next is the node behind r in its chain, 0 where there is none.
func (r replica) next() int {
	l := r.Roster().L
	k := slices.Index(l, r.id)
	if k < 0 || k+1 == len(l) {
		return 0
	}
	return l[k+1]
}

// strangers are all who are neither r nor the node behind it, the chief too.
func (r replica) strangers() []int {
	l := []int{}
	for n := range 6 {
		if n != r.id && (n == 0 || n != r.next()) {
			l = append(l, n)
		}
	}
	return l
}

// plain is w with nil in the place of each empty list.
func plain(w api.Word) api.Word {
	w = clone(w)
	w.Roster.L, w.Deeds = plainList(w.Roster.L), plainList(w.Deeds)
	w.State = plainState(w.State)
	return w
}

func plainState(s api.State) api.State {
	s.L, s.Memos = plainList(s.L), plainList(s.Memos)
	return s
}

func plainList[T any](l []T) []T {
	if len(l) == 0 {
		return nil
	}
	return l
}

// clone is w in memory of its own.
func clone(w api.Word) api.Word {
	w.Roster.L, w.Deeds = slices.Clone(w.Roster.L), slices.Clone(w.Deeds)
	w.State = cloneState(w.State)
	return w
}

func cloneState(s api.State) api.State {
	s.L, s.Memos = slices.Clone(s.L), slices.Clone(s.Memos)
	for k := range s.L {
		s.L[k].Vs = slices.Clone(s.L[k].Vs)
	}
	return s
}

func plainKnown(k known) known {
	k.Book, k.Pend, k.Roster.L = plainState(k.Book), plainList(k.Pend), plainList(k.Roster.L)
	return k
}

func same(a, b []api.Word) bool {
	return slices.EqualFunc(a, b, func(x, y api.Word) bool { return reflect.DeepEqual(plain(x), plain(y)) })
}

// short tells words, so that one can read what failed.
func short(l []api.Word) string {
	out := []string{}
	for _, w := range l {
		s := fmt.Sprintf("%d:%d>%d e%d s%d r%d =%d/%d", w.Kind, w.From, w.To, w.Epoch, w.Seq, w.Req, w.Res.Err, w.Res.Ver)
		if w.Until != 0 || w.Roster.Epoch != 0 {
			s += fmt.Sprint(" until ", w.Until, w.Roster)
		}
		for _, d := range w.Deeds {
			s += fmt.Sprintf(" %d %s %d", d.Kind, d.Key, d.Req)
		}
		if w.State.Seq > 0 {
			s += fmt.Sprintf(" book of %d", w.State.Seq)
		}
		out = append(out, s)
	}
	return "[" + strings.Join(out, "; ") + "]"
}

func (k known) String() string {
	return fmt.Sprintf("book of %d (%d keys, %d memos), %d wait, seq %d, epoch %d, learnt %d, down %v, roster %v until %d",
		k.Book.Seq, len(k.Book.L), len(k.Book.Memos), len(k.Pend), k.Seq, k.Epoch, k.Learnt, k.Down, k.Roster, k.Until)
}

// says asks that just those words are said, in that order.
func says(t *testing.T, what string, got []api.Word, want ...api.Word) {
	t.Helper()
	if !same(got, want) {
		t.Errorf("P13: %s: %s, not %s", what, short(got), short(want))
	}
}

// knows asks that this is what one can see of r.
func knows(t *testing.T, what string, r replica, want known) {
	t.Helper()
	if got := r.known(); !reflect.DeepEqual(plainKnown(got), plainKnown(want)) {
		t.Errorf("P13: %s: %v, not %v", what, got, want)
	}
}

// has asks that just those words are of Done, in that order, and that they are told once.
func has(t *testing.T, what string, r replica, want ...api.Word) {
	t.Helper()
	says(t, what+": Done", r.Done(), want...)
	says(t, what+": Done once more", r.Done())
}

// nothing asks that w does nothing at all.
func nothing(t *testing.T, what string, r replica, w api.Word, now int64) {
	t.Helper()
	was := r.known()
	says(t, what, r.Step(w, now))
	knows(t, what, r, was)
	has(t, what, r)
}

// fill leaves so much room in a chest.
func fill(t testing.TB, c *roll.Chest, room int) {
	t.Helper()
	if err := c.Write("FILL", strings.Repeat("x", c.Room()-room)); err != api.OK {
		t.Fatalf("Write: error %d", err)
	}
}

// down has r's shelf be down, as it was otherwise.
func down(t testing.TB, r replica) replica {
	t.Helper()
	fill(t, r.chest, 0)
	if err := r.Shelf().Pack(); err != api.ErrDown || !r.Shelf().Down() {
		t.Fatalf("shelf.Pack: error %d", err)
	}
	return r
}
