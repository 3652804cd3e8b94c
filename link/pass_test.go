package link_test

import (
	"fmt"
	"testing"

	"armarium/api"
)

func pass(from, to int, seq int64, l ...api.Deed) api.Word {
	return api.Word{Kind: api.WPass, From: from, To: to, Epoch: epoch, Seq: seq, Deeds: l}
}

func need(from, to int, seq, req int64) api.Word {
	return api.Word{Kind: api.WNeed, From: from, To: to, Epoch: epoch, Seq: seq, Req: req}
}

func ack(from, to int, seq int64) api.Word {
	return api.Word{Kind: api.WAck, From: from, To: to, Epoch: epoch, Seq: seq}
}

// In the middle: 4 are committed, so many wait.
func TestPassInTheMiddle(t *testing.T) {
	for _, waits := range []int{0, 1, 9} {
		for q := range 20 {
			for n := range 21 {
				r := placed(made(t, 1, 4, waits), 0, 3, 1, 4)
				all := 4 + waits
				want := r.known()
				said := []api.Word{}
				switch {
				case q > all:
					said = append(said, need(1, 3, int64(all), 0))
				case q+n > all:
					want = want.add(deeds(all, q+n-all)...)
					said = append(said, pass(1, 4, int64(all), deeds(all, min(6, q+n-all))...))
				case q < 4:
					said = append(said, ack(1, 3, 4))
				}
				what := fmt.Sprintf("the middle, %d wait, a WPass of %d behind %d", waits, n, q)
				says(t, what, r.Step(pass(3, 1, int64(q), deeds(q, n)...), until), said...)
				knows(t, what, r, want)
				has(t, what, r)
				if f := r.fall(t, 0); f.Shelf().Seq() != want.Seq {
					t.Errorf("P13.1: %s: behind a fall %v", what, f.known())
				}
			}
		}
	}
}

// At the tail: 4 are committed, and so all that comes.
func TestPassAtTheTail(t *testing.T) {
	for k, make := range []func() replica{
		func() replica { return placed(made(t, 5, 4, 0), 0, 3, 1, 5) }, func() replica { return learnt(t, 4, 3, 1, 5) }, func() replica { return placed(made(t, 5, 4, 0), 0, 1, 5) },
	} {
		for q := range 7 {
			for _, n := range []int{0, 1, 2, 3, 4, 5, 6, 7, 8, 9, 30, 60} {
				r := make()
				want := r.known()
				said := []api.Word{}
				results := []api.Result{}
				what := fmt.Sprintf("the tail %d, a WPass of %d behind %d", k, n, q)
				if q > 4 {
					said = append(said, need(5, 1, 4, 0))
				} else {
					fresh := max(0, q+n-4)
					want, results = want.add(deeds(4, fresh)...).commit(fresh)
					for k, d := range deeds(4, fresh) {
						said = append(said, done(5, d, results[k]))
					}
					said = append(said, ack(5, 1, want.Seq))
				}
				other, own := splits(5, said)
				says(t, what, r.Step(pass(1, 5, int64(q), deeds(q, n)...), until), other...)
				knows(t, what, r, want)
				has(t, what, r, own...)
			}
		}
	}
}

// What stands at a place is not asked of again: what is there stays.
func TestPassOfOthersAtPlacesThatAreKnown(t *testing.T) {
	r := placed(made(t, 1, 4, 3), 0, 3, 1, 4)
	l := others(5)
	want := r.known().add(l[3:]...)
	says(t, "others", r.Step(pass(3, 1, 4, l...), 1), pass(1, 4, 7, l[3:]...))
	knows(t, "others", r, want)
	// Behind all it may be a deed that is there already.
	want = want.add(nth(2), nth(6), l[3])
	says(t, "once more", r.Step(pass(3, 1, 9, nth(2), nth(6), l[3]), 1), pass(1, 4, 9, nth(2), nth(6), l[3]))
	knows(t, "once more", r, want)
}

func TestPassFromOthers(t *testing.T) {
	for _, p := range places(t) {
		r := p.make(4, 0)
		ahead := map[int]int{1: 3, 4: 1, 5: 1}[r.id]
		for from := range 6 {
			if from == r.id || from == ahead && p.what != "the new one" {
				continue
			}
			for q := int64(2); q < 7; q++ {
				for _, n := range []int{0, 1, 3, 7} {
					nothing(t, fmt.Sprint(p.what, ": a WPass from ", from), r, pass(from, r.id, q, deeds(int(q), n)...), 1)
				}
			}
		}
	}
}

// The first error ends it; what was added ahead of it is passed on.
func TestPassThatFills(t *testing.T) {
	for waits := 52; waits <= 60; waits++ {
		for n := range 10 {
			r := placed(made(t, 1, 4, waits), 0, 3, 1, 4)
			all := 4 + waits
			fit := min(n, 60-waits)
			want := r.known().add(deeds(all, fit)...)
			said := []api.Word{}
			if fit > 0 {
				said = append(said, pass(1, 4, int64(all), deeds(all, min(6, fit))...))
			}
			what := fmt.Sprint(waits, " wait, ", n, " come")
			says(t, what, r.Step(pass(3, 1, int64(all), deeds(all, n)...), 1), said...)
			knows(t, what, r, want)
			has(t, what, r)
		}
	}
	// None are added; the Book is not further, and is.
	r := placed(made(t, 1, 4, 60), 0, 3, 1, 4)
	want := r.known()
	says(t, "60 wait", r.Step(pass(3, 1, 4, deeds(4, 60)...), 1))
	for q := range 4 {
		says(t, "60 wait", r.Step(pass(3, 1, int64(q), deeds(q, 60)...), 1), ack(1, 3, 4))
	}
	knows(t, "60 wait", r, want)
}

// There is no deed behind the 2^40th, neither in the middle nor at the tail.
func TestPassUpToTheLastDeed(t *testing.T) {
	for n := range 6 {
		r := placed(at(t, 1, api.State{Seq: top - 3}, 0), 0, 3, 1, 4)
		fit := min(3, n)
		want := r.known().add(deeds(0, fit)...)
		said := []api.Word{pass(1, 4, top-3, deeds(0, fit)...)}
		if n == 0 {
			said = nil
		}
		says(t, "2^40 in the middle", r.Step(pass(3, 1, top-3, deeds(0, n)...), 1), said...)
		knows(t, "2^40 in the middle", r, want)
		r = placed(at(t, 4, api.State{Seq: top - 3}, 0), 0, 3, 4)
		want, results := r.known().add(deeds(0, fit)...).commit(fit)
		said = nil
		for k, d := range deeds(0, fit) {
			said = append(said, done(4, d, results[k]))
		}
		other, own := splits(4, append(said, ack(4, 3, top-3+int64(fit))))
		says(t, "2^40 at the tail", r.Step(pass(3, 4, top-3, deeds(0, n)...), 1), other...)
		knows(t, "2^40 at the tail", r, want)
		has(t, "2^40 at the tail", r, own...)
	}
	r := placed(at(t, 1, api.State{Seq: 0}, 0), 0, 3, 1, 4)
	says(t, "far ahead", r.Step(pass(3, 1, top, deeds(0, 60)...), 1), need(1, 3, 0, 0))
}

// Whatever else is in the word does not count.
func TestPassByItsPartsAlone(t *testing.T) {
	r := placed(made(t, 1, 4, 3), 0, 3, 1, 4)
	w := pass(3, 1, 7, deeds(7, 2)...)
	w.Req, w.Until, w.Res, w.Roster, w.State = req(1, 1), 3, api.Result{Err: 5, Ver: 7}, of(8, 0, 1, 2), r.Shelf().Book()
	says(t, "with all parts", r.Step(w, 1), pass(1, 4, 7, deeds(7, 2)...))
}

// The tail tells of what it has told already nothing but how far it is.
func TestPassTwice(t *testing.T) {
	r := placed(made(t, 4, 2, 0), 0, 1, 4)
	w := pass(1, 4, 2, deeds(2, 4)...)
	first := r.Step(w, 1)
	r.Done()
	if len(first) < 4 {
		t.Errorf("P13.1: a WPass: %s", short(first))
	}
	want := r.known()
	for range 3 {
		says(t, "a WPass twice", r.Step(w, 1), ack(4, 1, 6))
		knows(t, "a WPass twice", r, want)
		has(t, "a WPass twice", r)
	}
}
