package flock_test

import (
	"fmt"
	"math/rand"
	"slices"
	"testing"

	"armarium/api"
	"armarium/flock"
	"armarium/word"
)

// model is a flock as a plain list of words, with the lengths of their texts.
type model struct {
	words   []api.Word
	lengths []int
}

func (m *model) say(w api.Word) bool {
	n := len(word.Put(w))
	if n == 0 || len(m.words) == most {
		return false
	}
	m.words, m.lengths = append(m.words, w), append(m.lengths, n)
	return true
}

func (m *model) peek(k int) (api.Word, bool) {
	if k < 0 || len(m.words) <= k {
		return api.Word{}, false
	}
	return m.words[k], true
}

func (m *model) pull(k int) (api.Word, bool) {
	w, ok := m.peek(k)
	if ok {
		m.words, m.lengths = slices.Delete(m.words, k, k+1), slices.Delete(m.lengths, k, k+1)
	}
	return w, ok
}

func (m *model) size() int {
	n := 0
	for _, k := range m.lengths {
		n += k
	}
	return n
}

// step does the same to both.
func step(t *testing.T, what string, r *rand.Rand, pulls int, pick func() api.Word, f *flock.Flock, m *model) {
	t.Helper()
	k := r.Intn(len(m.words)+3) - 1
	if r.Intn(20) == 0 {
		far := outside(len(m.words))
		k = far[r.Intn(len(far))]
	}
	switch n := r.Intn(10); {
	case n < pulls:
		got, ok := f.Pull(k)
		if want, there := m.pull(k); ok != there || !same(got, want) {
			t.Fatalf("P12.1: %s: Pull(%d): %t, %s, not %t, %s", what, k, ok, short(got), there, short(want))
		}
	case n < 8:
		w := pick()
		if got, want := f.Say(w), m.say(w); got != want {
			t.Fatalf("P12.1: %s: Say: %t: %s", what, got, short(w))
		}
	default:
		got, ok := f.Peek(k)
		if want, there := m.peek(k); ok != there || !same(got, want) {
			t.Fatalf("P12.1: %s: Peek(%d): %t, %s, not %t, %s", what, k, ok, short(got), there, short(want))
		}
	}
	counts(t, what, f, len(m.words), m.size())
}

// picker picks words of all kinds, a few of them such as may not be.
func picker(r *rand.Rand) func() api.Word {
	right, wrong := turns()
	usual := told()
	return func() api.Word {
		switch n := r.Intn(80); {
		case n == 0:
			return longest()
		case n < 6:
			return wrong[r.Intn(len(wrong))].word()
		case n < 12:
			return right[r.Intn(len(right))].word()
		case n < 32:
			return usual[r.Intn(len(usual))]
		}
		return beat(r.Intn(1 << 20))
	}
}

// Long rows of steps, some of which fill it, and some of which leave it nearly empty.
func TestRows(t *testing.T) {
	t.Parallel()
	empty, full := 0, 0
	for seed := range 15 {
		r := rand.New(rand.NewSource(int64(seed)))
		pick, f, m := picker(r), flock.New(), &model{}
		for k := range 1500 {
			pulls := 1 + seed%5
			if seed%2 == 1 && k%500 > 400 {
				pulls = 7
			}
			step(t, fmt.Sprint("row ", seed, ", step ", k), r, pulls, pick, f, m)
			switch len(m.words) {
			case 0:
				empty++
			case most:
				full++
			}
			if k%750 == 749 {
				holds(t, fmt.Sprint("row ", seed, ", behind the step ", k), f, m.words)
			}
		}
	}
	if empty < 100 || full < 100 {
		t.Errorf("empty behind %d steps, full behind %d", empty, full)
	}
}

// Some beside one another: what is done to one is not seen in another one.
func TestFlocksBesideEachOther(t *testing.T) {
	r := rand.New(rand.NewSource(5))
	pick := picker(r)
	flocks, models := []*flock.Flock{}, []*model{}
	for range 4 {
		flocks, models = append(flocks, flock.New()), append(models, &model{})
	}
	for k := range 2000 {
		n := r.Intn(4)
		step(t, fmt.Sprint("flock ", n, ", step ", k), r, 1+n, pick, flocks[n], models[n])
		for n, m := range models {
			counts(t, "each of them", flocks[n], len(m.words), m.size())
		}
	}
	for n, m := range models {
		holds(t, fmt.Sprint("flock ", n), flocks[n], m.words)
	}
}

// One that is full beside one that is empty.
func TestTwoFlocks(t *testing.T) {
	l := beats(most)
	a, b := of(t, l...), flock.New()
	refuses(t, "the full one", a, some())
	holds(t, "the empty one", b, nil)
	says(t, "the empty one", b, some())
	holds(t, "the full one", a, l)
	holds(t, "the other one", b, []api.Word{some()})
	pulls(t, "the full one", a, 0, l[0])
	holds(t, "the other one", b, []api.Word{some()})
	pulls(t, "the other one", b, 0, some())
	holds(t, "the full one", a, l[1:])
	holds(t, "the other one", b, nil)
}

// The same steps, done to two of them, come to the same.
func TestTheSameSteps(t *testing.T) {
	var a, b []string
	for _, l := range []*[]string{&a, &b} {
		r := rand.New(rand.NewSource(9))
		pick, f := picker(r), flock.New()
		for range 600 {
			k := r.Intn(30) - 1
			if r.Intn(3) == 0 {
				w, ok := f.Pull(k)
				*l = append(*l, fmt.Sprint(ok, plain(w)))
			}
			*l = append(*l, fmt.Sprint(f.Say(pick()), f.Len(), f.Size()))
		}
	}
	if !slices.Equal(a, b) {
		t.Error("P0.5: the same steps come to something else")
	}
}

// One that New did not make is empty, too.
func TestZeroFlock(t *testing.T) {
	f := &flock.Flock{}
	holds(t, "a zero one", f, nil)
	if _, ok := f.Pull(0); ok {
		t.Error("P12.1: Pull(0) of a zero one: true")
	}
	says(t, "a zero one", f, told()...)
	holds(t, "a zero one", f, told())
}

func TestNilFlock(t *testing.T) {
	var f *flock.Flock
	for range 2 {
		for _, w := range append(toldAndLongest(), api.Word{}, beat(1)) {
			refuses(t, "nil", f, w)
		}
		for _, k := range append(outside(0), 1, 2, 5) {
			if w, ok := f.Peek(k); ok || !same(w, api.Word{}) {
				t.Errorf("P12.1: nil: Peek(%d): %t, %s", k, ok, short(w))
			}
			if w, ok := f.Pull(k); ok || !same(w, api.Word{}) {
				t.Errorf("P12.1: nil: Pull(%d): %t, %s", k, ok, short(w))
			}
		}
		counts(t, "nil", f, 0, 0)
	}
	if flock.New() == nil {
		t.Error("P12.1: New: nil")
	}
}
