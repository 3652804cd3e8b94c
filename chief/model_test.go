package chief_test

import (
	"fmt"
	"math/rand"
	"slices"
	"testing"

	"armarium/api"
	"armarium/roll"
)

// model is a chief told in another way: all that it was told of an epoch is kept, and what counts is looked up.
type model struct {
	r     api.Roster
	to    []api.Roster    // what is to be
	heard map[int][]int64 // all times at which a member was heard
	asked []int           // all that asked in since the epoch's begin
	ends  []int64         // of all leases
	lost  bool
}

func (m *model) begin(r api.Roster, now int64) {
	m.r, m.to, m.asked, m.heard = r, nil, nil, map[int][]int64{}
	for _, n := range r.L {
		m.heard[n] = []int64{now}
	}
}

func (m *model) told() string {
	return state{m.r, slices.Max(m.ends), len(m.to) > 0, m.lost}.String()
}

func (m *model) step(w api.Word, now int64) string {
	there := slices.Contains(m.r.L, w.From)
	switch {
	case w.To != 0 || w.From < 1 || w.From > 5:
	case w.Kind == 1 && !there:
		m.asked = append(m.asked, w.From)
	case w.Kind == 1:
		m.heard[w.From] = append(m.heard[w.From], now)
		if len(m.to) == 0 {
			m.ends = append(m.ends, now+6)
			return fmt.Sprint([]api.Word{{Kind: 2, To: w.From, Roster: m.r, Until: now + 6}})
		}
	case w.Kind == 11 && w.From == m.r.New && w.Epoch == m.r.Epoch && len(m.to) == 0:
		m.r.New = 0
	}
	return "[]"
}

func (m *model) tick(now int64) {
	if len(m.to) > 0 {
		if slices.Max(m.ends) < now {
			m.begin(m.to[0], now)
		}
		return
	}
	m.lost = false
	next := of(m.r.Epoch+1, m.r.New)
	for k, n := range m.r.L {
		if now-m.heard[n][len(m.heard[n])-1] < 10 {
			continue
		}
		next.L = slices.Concat(m.r.L[:k], m.r.L[k+1:])
		if n == m.r.New {
			next.New = 0
		}
		if m.lost = len(next.L) == 0 || next.L[0] == next.New; !m.lost {
			m.to = []api.Roster{next}
		}
		return
	}
	if len(m.asked) > 0 && m.r.New == 0 {
		next.New = m.asked[len(m.asked)-1]
		next.L = slices.Concat(m.r.L, []int{next.New})
		m.to = []api.Roster{next}
	}
}

// leases are those that were granted, by what they were granted for.
type leases map[string]int64

// granted asks that no lease of another chain holds when one is granted (New alone may be told otherwise).
func (l leases) granted(t *testing.T, what string, w api.Word, now int64) {
	t.Helper()
	chain := fmt.Sprint(w.Roster.Epoch, w.Roster.L)
	for other, until := range l {
		if other != chain && until >= now {
			t.Fatalf("P10.2: %s: at %d a lease for %s, while one holds for %s until %d", what, now, chain, other, until)
		}
	}
	l[chain] = max(l[chain], w.Until)
}

// wordBy is mostly a WBeat of one of few, now and then a WFull, or a word that is nothing.
func wordBy(r *rand.Rand, talks []int, epoch int64) api.Word {
	from := talks[r.Intn(len(talks))]
	switch r.Intn(12) {
	case 0:
		return api.Word{Kind: r.Intn(14) - 1, From: r.Intn(8) - 1, To: r.Intn(3), Epoch: epoch + int64(r.Intn(3)) - 1}
	case 1, 2:
		return full(1+r.Intn(5), epoch)
	}
	return beat(from)
}

// run has a chief and its model go one way, with those that talk turning now and then, and falls; it answers how far
// the epochs came, and how often it was Lost.
func run(t *testing.T, seed int64) (int64, int) {
	t.Helper()
	r := rand.New(rand.NewSource(seed))
	l := allOrders()[r.Intn(325)]
	now := int64(r.Intn(3) * r.Intn(1000000))
	d, granted, lost := roll.New(1000), leases{}, 0
	c, m := open(t, d, of(1, 0, l...), now), &model{ends: []int64{now}}
	m.begin(of(1, 0, l...), now)
	talks := r.Perm(5)[:1+r.Intn(5)]
	for k := range 400 {
		what := fmt.Sprintf("as the model, %d, %d, at %d", seed, k, now)
		switch x := r.Intn(100); {
		case x < 45:
			w := wordBy(r, talks, m.r.Epoch)
			w.From += r.Intn(2)
			said := c.Step(w, now)
			if want := m.step(w, now); fmt.Sprint(said) != want {
				t.Fatalf("P10.2: %s: Step of %v: %v, not %s", what, w, said, want)
			}
			for _, w := range said {
				granted.granted(t, what, w, now)
			}
		case x < 94:
			now += int64(r.Intn(3))
			c.Tick(now)
			m.tick(now)
		case x < 96:
			talks = r.Perm(5)[:1+r.Intn(5)]
		case x < 98:
			now += int64(r.Intn(15))
		default:
			if r.Intn(2) == 0 {
				d = d.Tear(r.Intn(99))
			}
			c = open(t, d, of(2, 0, 3), now)
			m.begin(m.r, now)
			m.ends, m.lost = []int64{now + 6}, false
		}
		tells(t, what, c, m.told())
		if m.lost {
			lost++
		}
	}
	return m.r.Epoch, lost
}

// Chiefs and their models go one way, whatever they are told.
func TestAsTheModel(t *testing.T) {
	t.Parallel()
	far, lost := int64(0), 0
	for seed := range int64(3000) {
		epochs, times := run(t, seed)
		far, lost = max(far, epochs), lost+times
	}
	if far < 10 || lost < 1000 {
		t.Errorf("as the model: up to %d epochs, and so often Lost: %d", far, lost)
	}
}
