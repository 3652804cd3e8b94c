package shelf_test

import (
	"fmt"
	"slices"
	"testing"

	"armarium/api"
	"armarium/book"
	"armarium/deed"
	"armarium/roll"
	"armarium/shelf"
)

// model is what a shelf tells, reckoned in another way.
type model struct {
	book          api.State
	pend          []api.Deed
	epoch, learnt int64
	down          bool
}

func (m *model) seq() int64 { return m.book.Seq + int64(len(m.pend)) }

func (m *model) add(d api.Deed) api.Errno {
	if m.down {
		return api.ErrDown
	}
	if !deed.May(d) {
		return api.ErrForm
	}
	if len(m.pend) == 60 || m.seq() == top {
		return api.ErrFull
	}
	m.pend = append(slices.Clip(m.pend), d)
	return api.OK
}

func (m *model) commit(seq int64) ([]api.Result, api.Errno) {
	if m.down {
		return nil, api.ErrDown
	}
	if seq > m.seq() {
		return nil, api.ErrRange
	}
	l := []api.Result{}
	for m.book.Seq < seq {
		b, r := book.Do(m.book, m.pend[0])
		m.book, m.pend, l = b, m.pend[1:], append(l, r)
	}
	return l, api.OK
}

func (m *model) enter(epoch int64) api.Errno {
	if m.down {
		return api.ErrDown
	}
	if epoch <= m.epoch {
		return api.ErrOld
	}
	m.epoch = epoch
	return api.OK
}

func (m *model) learn(b api.State, l []api.Deed) api.Errno {
	if m.down {
		return api.ErrDown
	}
	if !book.May(b) || len(l) > 60 || b.Seq > top-int64(len(l)) {
		return api.ErrForm
	}
	for _, d := range l {
		if !deed.May(d) {
			return api.ErrForm
		}
	}
	m.book, m.pend, m.learnt = clone(b), slices.Clone(l), m.epoch
	return api.OK
}

func (m *model) pack() api.Errno {
	if m.down {
		return api.ErrDown
	}
	return api.OK
}

// told is all that a shelf tells.
func told(s *shelf.Shelf) model {
	return model{book: s.Book(), pend: s.Pend(), epoch: s.Epoch(), learnt: s.Learnt(), down: s.Down()}
}

// is tells whether both are the same.
func (m *model) is(o model) bool {
	return book.Eq(m.book, o.book) && slices.Equal(m.pend, o.pend) && m.epoch == o.epoch && m.learnt == o.learnt && m.down == o.down
}

// String is a model in short.
func (m model) String() string {
	s := fmt.Sprintf("Seq %d, Epoch %d, Learnt %d, Down %t, Book %d, Pend %d: %+v, %+v", m.seq(), m.epoch, m.learnt, m.down, m.book.Seq, len(m.pend), m.pend, m.book)
	return s[:min(len(s), 600)]
}

// both are a shelf in its chest, its model, and the models of which a fall leaves one: the last one is the model itself.
// came is what came of the deeds since the last Learn, by their numbers. Of light ones fewer falls are asked.
type both struct {
	t     *testing.T
	what  string
	c     *roll.Chest
	s     *shelf.Shelf
	m     model
	lasts []model
	came  map[int64]api.Result
	light bool
}

// opened opens what may be opened.
func opened(t *testing.T, what string, c *roll.Chest) *shelf.Shelf {
	t.Helper()
	s, err := shelf.Open(c)
	if err != api.OK || s == nil {
		t.Fatalf("%s: Open: error %d", what, err)
	}
	return s
}

// begin is a fresh shelf in a chest with so much room.
func begin(t *testing.T, what string, room int) *both {
	t.Helper()
	return beginIn(t, what, roll.New(room))
}

// beginIn is a fresh shelf in that chest.
func beginIn(t *testing.T, what string, c *roll.Chest) *both {
	t.Helper()
	x := &both{t: t, what: what, c: c, s: opened(t, what, c), lasts: []model{{}}, came: map[int64]api.Result{}}
	x.holds("Open")
	return x
}

// roomy is a fresh shelf in a chest with room for all.
func roomy(t *testing.T, what string) *both {
	t.Helper()
	return begin(t, what, 1<<20)
}

// loose is how many bytes of LOG a fall may take.
func loose(c *roll.Chest) int {
	s, _ := c.Read("LOG")
	return len(s) - c.Pressed("LOG")
}

// holds asks what the shelf tells, and what falls leave of it.
func (x *both) holds(what string) {
	x.t.Helper()
	if got := told(x.s); !x.m.is(got) || x.s.Seq() != x.m.seq() {
		x.t.Fatalf("P8.1, %s: %s: %s; not %s; Seq %d", x.what, what, got, x.m, x.s.Seq())
	}
	// What is down writes nothing: its falls are those that it had.
	if x.m.down {
		return
	}
	k := loose(x.c)
	l := []int{0, 1, k / 2, k - 1, k}
	if x.light {
		l = []int{0, k}
	}
	slices.Sort(l)
	for _, n := range slices.Compact(l) {
		if n >= 0 && n <= k {
			x.left(what, x.c.Tear(n))
		}
	}
}

// left asks that what is there behind a fall is one of what may be, and answers which.
func (x *both) left(what string, c *roll.Chest) (*shelf.Shelf, int) {
	x.t.Helper()
	s := opened(x.t, fmt.Sprintf("P8.2, %s: %s", x.what, what), c)
	got := told(s)
	for k, m := range x.lasts {
		if m.is(got) {
			return s, k
		}
	}
	x.t.Fatalf("P8.2, %s: %s: it is %s; %d might be, the last one %s", x.what, what, got, len(x.lasts), x.lasts[len(x.lasts)-1])
	return nil, 0
}

// fall goes on with what is left in c: behind a fall, of which all is pressed, or without one.
func (x *both) fall(what string, c *roll.Chest) {
	x.t.Helper()
	s, k := x.left(what, c)
	x.c, x.s, x.m, x.lasts = c, s, x.lasts[k], slices.Clone(x.lasts[:k+1])
	if loose(c) == 0 {
		x.lasts = x.lasts[k:]
	}
	x.holds(what)
}

// agrees asks that both answered the same. What was pressed lasts with all that lies ahead of it.
func (x *both) agrees(what string, got, want api.Errno, press bool) api.Errno {
	x.t.Helper()
	if got != want {
		x.t.Fatalf("P8.1, %s: %s: error %d, not %d", x.what, what, got, want)
	}
	if press && want == api.OK {
		x.lasts = nil
	}
	if !x.m.down {
		x.lasts = append(x.lasts, x.m)
	}
	x.holds(what)
	return got
}

func (x *both) add(d api.Deed) api.Errno {
	x.t.Helper()
	return x.agrees(fmt.Sprintf("Add of %+v", d), x.s.Add(d), x.m.add(d), true)
}

func (x *both) commit(seq int64) ([]api.Result, api.Errno) {
	x.t.Helper()
	at := x.m.book.Seq
	l, err := x.s.Commit(seq)
	want, no := x.m.commit(seq)
	if !slices.Equal(l, want) {
		x.t.Fatalf("P8.1, %s: Commit of %d: %+v, not %+v", x.what, seq, l, want)
	}
	for _, r := range l {
		at++
		if was, ok := x.came[at]; ok && r != was {
			x.t.Fatalf("P8.2, %s: Commit of %d: at %d there came %+v, and now %+v", x.what, seq, at, was, r)
		}
		x.came[at] = r
	}
	return l, x.agrees(fmt.Sprint("Commit of ", seq), err, no, false)
}

func (x *both) enter(epoch int64) api.Errno {
	x.t.Helper()
	return x.agrees(fmt.Sprint("Enter of ", epoch), x.s.Enter(epoch), x.m.enter(epoch), true)
}

func (x *both) learn(what string, b api.State, l []api.Deed) api.Errno {
	x.t.Helper()
	got, want := x.s.Learn(b, l), x.m.learn(b, l)
	if want == api.OK {
		x.came = map[int64]api.Result{}
	}
	return x.agrees("Learn of "+what, got, want, true)
}

func (x *both) pack() api.Errno {
	x.t.Helper()
	return x.agrees("Pack", x.s.Pack(), x.m.pack(), true)
}

// fine asks that what was done was done.
func (x *both) fine(l ...api.Errno) {
	x.t.Helper()
	for k, err := range l {
		if err != api.OK {
			x.t.Fatalf("%s: the step %d: error %d", x.what, k, err)
		}
	}
}

// commits commits what may be committed.
func (x *both) commits(seq int64) []api.Result {
	x.t.Helper()
	l, err := x.commit(seq)
	x.fine(err)
	return l
}

// rolls is all that a chest has: each roll, with a bar behind what is pressed, and the room.
func rolls(c *roll.Chest) string {
	s := ""
	for _, name := range c.Names() {
		text, _ := c.Read(name)
		n := c.Pressed(name)
		s += fmt.Sprintf("%s:%q|%q ", name, text[:n], text[n:])
	}
	return s + fmt.Sprint(c.Room())
}
