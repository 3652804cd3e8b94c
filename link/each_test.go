package link_test

import (
	"fmt"
	"math/rand"
	"reflect"
	"slices"
	"testing"

	"armarium/api"
)

// pair is a replica, and the model that it is held against.
type pair struct {
	replica
	m *model
}

// alike asks that both say, know and have Done the same.
func (p pair) alike(t *testing.T, what string, got, want []api.Word) bool {
	t.Helper()
	if !same(got, want) {
		t.Errorf("P13: %s: %s, not %s", what, short(got), short(want))
		return false
	}
	if k := p.replica.known(); !reflect.DeepEqual(plainKnown(k), plainKnown(p.m.known)) {
		t.Errorf("P13: %s: %v, not %v", what, k, p.m.known)
		return false
	}
	if a, b := p.Done(), p.m.takes(); !same(a, b) {
		t.Errorf("P13: %s: Done %s, not %s", what, short(a), short(b))
		return false
	}
	return true
}

// seqs are numbers around the Book's Seq 4, the shelf's 13, and beyond.
func seqs() []int64 { return []int64{0, 1, 3, 4, 5, 6, 7, 8, 11, 12, 13, 14, 20, top} }

// grid are words of each kind, by each node, of each epoch, to the node to.
func grid(to int) []api.Word {
	l := []api.Word{}
	for kind := api.WBeat; kind <= api.WFull; kind++ {
		for from := range 6 {
			for _, e := range []int64{epoch, epoch - 1, epoch + 1, 0} {
				for k, seq := range seqs() {
					if e == epoch || k%4 == 0 {
						l = append(l, variants(api.Word{Kind: kind, From: from, To: to, Epoch: e, Seq: seq})...)
					}
				}
			}
		}
	}
	return l
}

// variants are w with other requests, deeds, rosters and books, as far as its kind may ask for them.
func variants(w api.Word) []api.Word {
	l := []api.Word{}
	switch w.Kind {
	case api.WLease:
		for _, r := range []api.Roster{{}, of(w.Epoch, 0, 1, 2, 3, 4, 5), of(w.Epoch, 0, w.To), of(w.Epoch, 0, 6-w.To), of(w.Epoch, w.To, 6-w.To, w.To)} {
			for _, end := range []int64{0, until - 1, until, until + 1} {
				x := w
				x.Epoch, x.Roster, x.Until = 0, r, end
				l = append(l, x)
			}
		}
	case api.WNeed, api.WAsk, api.WTold, api.WDone:
		for _, r := range []int64{0, 1, 2, base, req(w.To, 3), req(6-w.To, 3), req(w.To, base-1), top} {
			x := w
			x.Req, x.Res = r, api.Result{Err: api.Errno(r % 14), Ver: r % 5}
			l = append(l, x)
		}
	case api.WPass, api.WWrite:
		for _, n := range []int{0, 1, 2, 5, 7, 10} {
			x := w
			x.Deeds = deeds(int(min(w.Seq, 30)), n)
			l = append(l, x)
		}
	case api.WState:
		s := known{}.add(deeds(0, 6)...)
		s, _ = s.commit(6)
		for n := range 3 {
			x := w
			x.State, x.Deeds = s.Book, deeds(6, n)
			l = append(l, x)
		}
	default:
		l = append(l, w)
	}
	return l
}

// Each word of the grid comes to a replica at each place, at the lease's end and one behind it; of what is to come of it the
// model tells.
func TestEachWordAtEachPlace(t *testing.T) {
	for _, x := range places(t) {
		t.Run(x.what, func(t *testing.T) {
			t.Parallel()
			var p pair
			for _, w := range grid(x.make(0, 0).id) {
				for _, now := range []int64{until, until + 1} {
					if p.m == nil {
						p.replica = x.make(4, 9)
						p.m = modelOf(p.replica)
					}
					was := p.m.known
					if word := mayBe(w); !word {
						nothing(t, fmt.Sprint(x.what, " at ", now, ": ", short([]api.Word{w})), p.replica, w, now)
						continue
					}
					if !p.alike(t, fmt.Sprint(x.what, " at ", now, ": ", short([]api.Word{w})), p.Step(w, now), p.m.step(w, now)) {
						p.m = nil
						continue
					}
					if !reflect.DeepEqual(was, p.m.known) {
						p.m = nil
					}
				}
			}
		})
	}
}

// mayBe tells of the words of the grid which may be.
func mayBe(w api.Word) bool {
	return w.From != w.To && (w.Kind != api.WLease || len(w.Roster.L) == 0 || w.Roster.Epoch > 0 && (w.Roster.New == 0 || w.Roster.L[0] != w.To))
}

// chains are rosters that a replica may come to stand in.
func chains(r *rand.Rand, id int, e int64) api.Roster {
	l := r.Perm(5)[:1+r.Intn(5)]
	for k := range l {
		l[k]++
	}
	x := of(e, 0, l...)
	if len(l) > 1 && r.Intn(3) == 0 {
		x.New = l[len(l)-1]
	}
	if !slices.Contains(l, id) && r.Intn(4) > 0 {
		k := r.Intn(len(l))
		if x.New == l[k] {
			x.New = id
		}
		l[k] = id
	}
	return x
}

// near is a number near one of those.
func near(r *rand.Rand, l ...int64) int64 { return max(0, l[r.Intn(len(l))]+int64(r.Intn(3))-1) }

// neighbours are the nodes of m's chain, those that stand beside it more often than others, and any.
func neighbours(r *rand.Rand, m *model) int {
	l := []int{m.by(-1), m.by(1), m.by(-1), m.by(1), 0, 1 + r.Intn(5)}
	if m.there() {
		l = append(l, m.Roster.L[0], m.Roster.L[len(m.Roster.L)-1])
	}
	return l[r.Intn(len(l))]
}

// some are deeds that have m's own as their beginning, as far as they go behind the place q.
func some(r *rand.Rand, m *model, q int64, fresh *int) []api.Deed {
	l := []api.Deed{}
	for range r.Intn(9) {
		k := q - m.Book.Seq + int64(len(l))
		if k >= 0 && k < int64(len(m.Pend)) {
			l = append(l, m.Pend[k])
			continue
		}
		l = append(l, anyDeed(r, m, fresh))
	}
	return l
}

// anyDeed is a new deed, or once in a while one that was there.
func anyDeed(r *rand.Rand, m *model, fresh *int) api.Deed {
	*fresh++
	d := nth(*fresh)
	if r.Intn(5) == 0 {
		d = nth(1 + r.Intn(*fresh))
	}
	if len(m.Pend) > 0 && r.Intn(6) == 0 {
		d = m.Pend[r.Intn(len(m.Pend))]
	}
	if r.Intn(4) > 0 {
		d.Low = req(int(d.Req/base), max(1, d.Req%base-int64(r.Intn(30))))
	}
	return d
}

// any is a word that may do something to m.
func anyWord(r *rand.Rand, m *model, now int64, fresh *int) api.Word {
	w := api.Word{Kind: 2 + r.Intn(9), To: m.id, From: neighbours(r, m), Epoch: m.Roster.Epoch, Seq: near(r, m.Book.Seq, m.Seq, m.Seq)}
	switch w.Kind {
	case api.WLease:
		w.From, w.Until = 0, now+int64(r.Intn(9))
		w.Roster = chains(r, m.id, near(r, m.Epoch, m.Epoch, m.Roster.Epoch)+1)
		if r.Intn(3) > 0 && m.there() {
			w.Roster = m.Roster
		}
		w.Epoch = 0
	case api.WWrite:
		w.Deeds = []api.Deed{anyDeed(r, m, fresh)}
	case api.WPass:
		w.Deeds = some(r, m, w.Seq, fresh)
	case api.WNeed:
		w.Req = int64(r.Intn(3))
	case api.WDone, api.WAsk, api.WTold:
		w.Req, w.Res.Ver = req(1+r.Intn(5), int64(r.Intn(4))), int64(r.Intn(4))
	case api.WState:
		k := m.known
		if n := r.Intn(len(k.Pend) + 1); n > 0 {
			k, _ = k.commit(n)
		}
		w.State, w.Deeds = k.Book, some(r, &model{known: k}, k.Book.Seq, fresh)
	}
	if r.Intn(12) == 0 {
		w.Epoch += int64(r.Intn(3)) - 1
	}
	return w
}

// Long rows of words and calls, as they may come, and as they may not, and of falls.
func TestRowsOfSteps(t *testing.T) {
	for part := range 8 {
		t.Run(fmt.Sprint("part ", part), func(t *testing.T) {
			t.Parallel()
			for seed := range 40 {
				row(t, rand.New(rand.NewSource(int64(part*1000+seed))), fmt.Sprint("part ", part, ", row ", seed))
			}
		})
	}
}

func row(t *testing.T, r *rand.Rand, what string) {
	p := pair{replica: made(t, 1+r.Intn(5), r.Intn(5), r.Intn(5))}
	p.m = modelOf(p.replica)
	fresh, now := 10, int64(0)
	for k := range 120 {
		did, got, want := one(r, p, now, &fresh)
		if !p.alike(t, fmt.Sprint(what, ", step ", k, " at ", now, ": ", did), got, want) {
			return
		}
		if r.Intn(8) == 0 {
			now += int64(r.Intn(5))
		}
		if r.Intn(40) == 0 {
			// All that it did lasts but the commits, which the roll may have lost.
			_ = p.Shelf().Pack()
			p.replica = p.fall(t, 0)
			p.m.Roster, p.m.Until = api.Roster{}, 0
		}
	}
}

// one has both do one thing.
func one(r *rand.Rand, p pair, now int64, fresh *int) (string, []api.Word, []api.Word) {
	switch r.Intn(12) {
	case 0:
		return "Tick", p.Tick(now), p.m.tick(now)
	case 1:
		d := anyDeed(r, p.m, fresh)
		return "Write of " + d.Key, p.Write(d, now), p.m.writes(d, now)
	case 2:
		n := req(1+r.Intn(5), int64(r.Intn(4)))
		return fmt.Sprint("Ask of ", n), p.Ask(n, now), p.m.ask(n, now)
	case 3:
		for _, key := range []string{"", "k1", "k5", nth(*fresh).Key} {
			if p.Ready(key, now) != p.m.ready(key, now) {
				return "Ready of " + key, []api.Word{{Kind: api.WDone}}, nil
			}
		}
		p.m.now = now
		if p.Active(now) != p.m.active() {
			return "Active", []api.Word{{Kind: api.WDone}}, nil
		}
		return "", nil, nil
	}
	w := anyWord(r, p.m, now, fresh)
	if w.From == w.To || w.Epoch < 0 {
		return "", nil, nil
	}
	return short([]api.Word{w}), p.Step(w, now), p.m.step(w, now)
}
