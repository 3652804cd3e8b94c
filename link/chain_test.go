package link_test

import (
	"fmt"
	"math/rand"
	"reflect"
	"slices"
	"testing"

	"armarium/api"
	"armarium/book"
	"armarium/chief"
	"armarium/roll"
)

// world is a chief, and replicas, each with somebody who writes and asks there. What is done stands in one order.
type world struct {
	*testing.T
	what    string
	r       *rand.Rand
	now     int64
	chief   *chief.Chief // nil: it is down
	chest   *roll.Chest  // the chief's
	first   api.Roster
	nodes   []*client
	words   []api.Word
	order   []api.Deed
	books   []api.State            // behind each deed of the order
	results map[int64][]api.Result // what came of a request, each time that it was done
	ended   int                    // how many writes and asks have their answers
}

// client is a replica, and what is written and asked there.
type client struct {
	replica
	up    bool
	n     int64              // numbers used
	waits map[int64]api.Deed // writes without an answer
	asks  map[int64]int      // asks without an answer, and how many deeds were done when they began
}

func newWorld(t *testing.T, what string, n int, seed int64) *world {
	w := &world{T: t, what: what, r: rand.New(rand.NewSource(seed)), chest: roll.New(room), first: of(1, 0), books: []api.State{{}}, results: map[int64][]api.Result{}}
	for id := 1; id <= n; id++ {
		w.first.L = append(w.first.L, id)
		w.nodes = append(w.nodes, &client{replica: open(t, id, roll.New(1<<20)), up: true, waits: map[int64]api.Deed{}, asks: map[int64]int{}})
	}
	w.r.Shuffle(n, func(a, b int) { w.first.L[a], w.first.L[b] = w.first.L[b], w.first.L[a] })
	w.startChief()
	return w
}

func (w *world) startChief() {
	c, err := chief.Open(w.chest, w.first, w.now)
	if err != api.OK {
		w.Fatalf("chief.Open: error %d", err)
	}
	w.chief = c
}

// say has words be on their way.
func (w *world) say(l []api.Word) {
	for _, x := range l {
		if len(w.words) < 300 || isFull(x) {
			w.words = append(w.words, x)
		}
	}
}

// isFull tells which words are not lost: a WFull is said once alone, and the chief waits for it.
func isFull(x api.Word) bool { return x.Kind == api.WFull }

func isNotFull(x api.Word) bool { return !isFull(x) }

// do has a replica do something, to which the deeds behind a place may have come, and looks at what has come of it.
func (w *world) do(c *client, q int64, l []api.Deed, call func() []api.Word) {
	before := c.known()
	w.say(call())
	if c.Shelf().Learnt() > before.Learnt {
		// What waited is gone.
		before.Pend = nil
	}
	w.follow(c, func(k int64) (api.Deed, bool) {
		if n := k - before.Book.Seq - 1; n >= 0 && n < int64(len(before.Pend)) {
			return before.Pend[n], true
		}
		if n := k - q - 1; n >= 0 && n < int64(len(l)) {
			return l[n], true
		}
		return api.Deed{}, false
	})
	w.answers(c)
	w.reads(c)
}

// follow asks that the replica's book is one of the order; what it did first is of the order from then on.
func (w *world) follow(c *client, at func(k int64) (api.Deed, bool)) {
	s := c.Shelf().Book()
	for int64(len(w.order)) < s.Seq {
		d, ok := at(int64(len(w.order)) + 1)
		if !ok {
			w.Fatalf("P13: %s: the node %d has done %d deeds, and nobody knows the one at %d", w.what, c.id, s.Seq, len(w.order)+1)
		}
		b, r := book.Do(w.books[len(w.order)], d)
		w.order, w.books = append(w.order, d), append(w.books, b)
		w.results[d.Req] = append(w.results[d.Req], r)
	}
	if !book.Eq(s, w.books[s.Seq]) {
		w.Fatalf("P13: %s: the node %d has done %d deeds, but not those of the order", w.what, c.id, s.Seq)
	}
}

// answers asks of what is told as done that it stands in the order, with just that result.
func (w *world) answers(c *client) {
	for _, x := range c.Done() {
		if x.To != c.id || x.Req/base != int64(c.id) {
			w.Fatalf("P13: %s: Done of the node %d: %s", w.what, c.id, short([]api.Word{x}))
		}
		switch _, waits := c.waits[x.Req]; {
		case x.Kind == api.WDone && !slices.Contains(w.results[x.Req], x.Res):
			w.Fatalf("P13: %s: %s, but it is %v", w.what, short([]api.Word{x}), w.results[x.Req])
		case x.Kind == api.WDone && waits:
			if x.Res != w.results[x.Req][0] {
				w.Fatalf("P13: %s: %s first, but it was %v first", w.what, short([]api.Word{x}), w.results[x.Req])
			}
			delete(c.waits, x.Req)
			w.ended++
		case x.Kind == api.WTold:
			if n, ok := c.asks[x.Req]; ok && (x.Seq < int64(n) || x.Seq > int64(len(w.order))) {
				w.Fatalf("P13: %s: %s, and %d to %d were done", w.what, short([]api.Word{x}), n, len(w.order))
			} else if ok && c.Active(w.now) && c.Shelf().Book().Seq >= x.Seq {
				delete(c.asks, x.Req)
				w.ended++
			}
		}
	}
}

// reads asks of a replica that is Ready that nothing newer is done; and that those that are Active are of one epoch.
func (w *world) reads(c *client) {
	last := w.books[len(w.order)]
	for k := range 8 {
		key := fmt.Sprint("k", k)
		if !c.Ready(key, w.now) {
			continue
		}
		a, errA := book.Get(c.Shelf().Book(), key, 0)
		b, errB := book.Get(last, key, 0)
		if a != b || errA != errB {
			w.Fatalf("P13: %s: the node %d reads %v of %s, which is %v", w.what, c.id, a, key, b)
		}
	}
	if c.Ready("", w.now) && !book.Eq(c.Shelf().Book(), last) {
		w.Fatalf("P13: %s: the node %d is Ready, and has done %d of %d", w.what, c.id, c.Shelf().Book().Seq, len(w.order))
	}
	for _, x := range w.nodes {
		if x.up && x.Active(w.now) && c.Active(w.now) && (x.Roster().Epoch != c.Roster().Epoch || !reflect.DeepEqual(x.Roster().L, c.Roster().L)) {
			w.Fatalf("P13: %s: two chains at a time: %v and %v", w.what, x.known(), c.known())
		}
	}
}

// send has the word at a place come.
func (w *world) send(k int, stays bool) {
	x := w.words[k]
	if !stays && (w.chief != nil || isNotFull(x)) {
		w.words = slices.Delete(w.words, k, k+1)
	}
	if x.To == 0 {
		if w.chief != nil {
			w.say(w.chief.Step(x, w.now))
		}
		return
	}
	c := w.nodes[x.To-1]
	if !c.up {
		return
	}
	q := x.Seq
	if x.Kind == api.WState {
		q = x.State.Seq
	} else if x.Kind == api.WWrite {
		q = c.Shelf().Seq()
	}
	w.do(c, q, x.Deeds, func() []api.Word { return c.Step(x, w.now) })
}

// time goes on by one.
func (w *world) time() {
	w.now++
	if w.chief != nil {
		w.say(w.chief.Tick(w.now))
	}
	for _, c := range w.nodes {
		if !c.up {
			continue
		}
		w.do(c, 0, nil, func() []api.Word { return c.Tick(w.now) })
		for _, n := range sorted(c.waits) {
			w.write(c, c.waits[n])
		}
		for _, n := range sorted(c.asks) {
			w.do(c, 0, nil, func() []api.Word { return c.Ask(n, w.now) })
		}
	}
}

func sorted[T any](m map[int64]T) []int64 {
	l := []int64{}
	for n := range m {
		l = append(l, n)
	}
	slices.Sort(l)
	return l
}

func (w *world) write(c *client, d api.Deed) {
	w.do(c, c.Shelf().Seq(), []api.Deed{d}, func() []api.Word { return c.Write(d, w.now) })
}

// begins has a client write or ask something new, if not too much waits there.
func (w *world) begins(c *client) {
	if !c.up || len(c.asks) > 5 {
		return
	}
	c.n++
	n := req(c.id, c.n)
	if w.r.Intn(3) == 0 {
		c.asks[n] = len(w.order)
		w.do(c, 0, nil, func() []api.Word { return c.Ask(n, w.now) })
		return
	}
	d := put(fmt.Sprint("k", w.r.Intn(8)), fmt.Sprint("body ", w.r.Intn(5)), n)
	switch w.r.Intn(6) {
	case 0:
		d.Kind, d.Body = api.DDelete, ""
	case 1, 2:
		d.Kind, d.Body, d.Ver = api.DPurge, "", max(1, int64(len(w.order)-w.r.Intn(12)))
	case 3:
		d.Cond = api.CAbsent
	}
	d.Low = n
	if l := sorted(c.waits); len(l) > 0 {
		d.Low = l[0]
	}
	if n-d.Low > 15 {
		return
	}
	c.waits[n] = d
	w.write(c, d)
}

// falls has the chief, or a node, be down, or up again.
func (w *world) falls(id int) {
	if id == 0 {
		if w.chief == nil {
			w.startChief()
		} else {
			w.chief, w.chest = nil, w.chest.Tear(w.r.Intn(500)-1)
		}
		return
	}
	c := w.nodes[id-1]
	if c.up {
		c.up = false
		c.chest = c.chest.Tear(w.r.Intn(500) - 1)
		return
	}
	c.up = true
	c.replica = open(w, id, c.chest)
	// Behind a fall, too, its book is one of the order.
	w.follow(c, func(int64) (api.Deed, bool) { return api.Deed{}, false })
}

// step has something happen.
func (w *world) step() {
	n := len(w.words)
	switch k := w.r.Intn(100); {
	case k < 45 && n > 0:
		w.send(0, false)
	case k < 60 && n > 0:
		w.send(w.r.Intn(n), false)
	case k < 64 && n > 0:
		w.send(w.r.Intn(n), true)
	case k < 66 && n > 0:
		if k := w.r.Intn(n); isNotFull(w.words[k]) {
			w.words = slices.Delete(w.words, k, k+1)
		}
	case k < 75:
		w.time()
	case k < 76:
		w.falls(w.r.Intn(len(w.nodes) + 1))
	case k < 77:
		if c := w.nodes[w.r.Intn(len(w.nodes))]; c.up {
			w.do(c, 0, nil, func() []api.Word { c.Shelf().Pack(); return nil })
		}
	case k < 78 && w.r.Intn(5) == 0:
		// Nothing comes for a while, so that another epoch begins.
		for range 12 {
			w.time()
			w.words = slices.DeleteFunc(w.words, isNotFull)
		}
	default:
		w.begins(w.nodes[w.r.Intn(len(w.nodes))])
	}
}

// rest has all be up, and all words come, until nothing is left to be done.
func (w *world) rest() {
	for round := 0; ; round++ {
		if round > 12+24*len(w.nodes) {
			w.Fatalf("P13: %s: it does not come to rest: %v, %d are done", w.what, w.chief.Roster(), len(w.order))
		}
		for id := range len(w.nodes) + 1 {
			if id == 0 && w.chief == nil || id > 0 && !w.nodes[id-1].up {
				w.falls(id)
			}
		}
		w.drain()
		w.time()
		w.drain()
		if w.rests() {
			return
		}
	}
}

func (w *world) drain() {
	for k := 0; len(w.words) > 0 && k < 1500; k++ {
		w.send(0, false)
	}
}

// rests tells whether all stand in one chain, have done all, and have their answers.
func (w *world) rests() bool {
	x := w.chief.Roster()
	for _, c := range w.nodes {
		if len(c.waits) > 0 || len(c.asks) > 0 || !reflect.DeepEqual(c.Roster(), x) || !c.Ready("", w.now) || c.Shelf().Book().Seq != int64(len(w.order)) {
			return false
		}
	}
	return len(x.L) == len(w.nodes) && x.New == 0 && !w.chief.Changing()
}

// Chains of one to five, of which words come late, twice, out of order or not at all, and who fall.
func TestChains(t *testing.T) {
	for n := 1; n <= 5; n++ {
		t.Run(fmt.Sprint(n, " nodes"), func(t *testing.T) {
			t.Parallel()
			epochs, ended := int64(0), 0
			for seed := range int64(12) {
				w := newWorld(t, fmt.Sprint(n, " nodes, seed ", seed), n, seed)
				for part := range 4 {
					for range 300 {
						w.step()
					}
					if part%2 == 1 {
						w.rest()
					}
				}
				epochs, ended = epochs+w.chief.Roster().Epoch, ended+w.ended
			}
			// A test of the test: it has to be about something.
			if ended < 500 || n > 1 && epochs < 20 {
				t.Errorf("%d answers in %d epochs", ended, epochs)
			}
		})
	}
}

// When all goes well, each write is answered once all words have come, without any Tick but for the leases.
func TestChainsWhenAllGoesWell(t *testing.T) {
	for n := 1; n <= 5; n++ {
		w := newWorld(t, fmt.Sprint(n, " nodes, all well"), n, int64(n))
		w.time()
		w.drain()
		for k := range 60 {
			c := w.nodes[k%n]
			c.n++
			d := put(fmt.Sprint("k", k%8), fmt.Sprint("body ", k), req(c.id, c.n))
			d.Low = d.Req
			c.waits[d.Req] = d
			w.write(c, d)
			w.drain()
			for _, x := range w.nodes {
				if len(x.waits) > 0 || !x.Ready("", w.now) || x.Shelf().Book().Seq != int64(k+1) {
					t.Fatalf("P13: %d nodes, the write %d: %v", n, k, x.known())
				}
			}
			if k%3 == 0 {
				w.time()
				w.drain()
			}
		}
		if w.ended != 60 || w.chief.Roster().Epoch != 1 {
			t.Errorf("P13: %d nodes: %d answers, %v", n, w.ended, w.chief.Roster())
		}
	}
}
