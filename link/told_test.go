package link_test

import (
	"fmt"
	"testing"

	"armarium/api"
)

func ask(from, to int, req int64) api.Word {
	return api.Word{Kind: api.WAsk, From: from, To: to, Epoch: epoch, Req: req}
}

func told(from, to int, req, seq int64) api.Word {
	return api.Word{Kind: api.WTold, From: from, To: to, Epoch: epoch, Req: req, Seq: seq}
}

// reqs are requests of all kinds.
func reqs() []int64 {
	return []int64{0, 1, 2, 77, base - 1, base, req(1, 1), req(3, 5), req(4, base-1), req(5, 2), 6*base + 1, top}
}

func TestAskAtTheTail(t *testing.T) {
	for _, x := range []struct {
		r    replica
		from []int
	}{{placed(made(t, 4, 4, 0), 0, 3, 1, 4), []int{3, 1}}, {learnt(t, 4, 3, 1, 5), []int{3, 1}}, {placed(made(t, 5, 4, 0), 0, 2, 3, 1, 4, 5), []int{1, 2, 3, 4}}, {placed(made(t, 2, 4, 0), 0, 2), nil}} {
		want := x.r.known()
		for from := range 6 {
			for _, n := range reqs() {
				said := []api.Word{}
				for _, m := range x.from {
					if m == from {
						said = append(said, told(x.r.id, from, n, 4))
					}
				}
				if from != x.r.id {
					w := ask(from, x.r.id, n)
					w.Seq = 2
					says(t, fmt.Sprint("a WAsk from ", from), x.r.Step(w, until), said...)
				}
			}
		}
		knows(t, "WAsks", x.r, want)
		has(t, "WAsks", x.r)
	}
}

func TestAskElsewhere(t *testing.T) {
	for _, p := range places(t) {
		r := p.make(4, 9)
		if p.what == "the tail" || p.what == "the new one that has learnt" {
			continue
		}
		for from := range 6 {
			for _, n := range reqs() {
				if from != r.id {
					nothing(t, fmt.Sprint(p.what, ": a WAsk from ", from), r, ask(from, r.id, n), 1)
				}
			}
		}
	}
}

// At the head and in the middle: 4 are committed, 9 wait. Whether it is Active is not asked.
func TestTold(t *testing.T) {
	for _, p := range places(t)[:7] {
		for _, now := range []int64{0, until, until + 1, top} {
			for _, seq := range []int64{0, 3, 4, 5, 12, 13, 14, 99, top} {
				for _, n := range reqs() {
					r := p.make(4, 9)
					l := r.Roster().L
					tail := l[len(l)-1]
					if tail == r.id {
						continue
					}
					want := r.known()
					if seq > 4 {
						want, _ = want.commit(int(min(seq, 13) - 4))
					}
					own := []api.Word{}
					if n/base == int64(r.id) && n%base > 0 {
						own = append(own, told(tail, r.id, n, seq))
					}
					what := fmt.Sprintf("%s: told of %d up to %d", p.what, n, seq)
					says(t, what, r.Step(told(tail, r.id, n, seq), now))
					knows(t, what, r, want)
					has(t, what, r, own...)
				}
			}
		}
	}
}

func TestToldByOthers(t *testing.T) {
	for _, p := range places(t) {
		r := p.make(4, 9)
		tail := 0
		if l := r.Roster().L; len(l) > 0 {
			tail = l[len(l)-1]
		}
		for from := range 6 {
			if from == r.id || from == tail && tail > 0 {
				continue
			}
			for _, seq := range []int64{0, 5, 13} {
				for _, n := range []int64{0, req(r.id, 3), 77} {
					w := told(from, r.id, n, seq)
					nothing(t, fmt.Sprint(p.what, ": told by ", from), r, w, 1)
					// A chain that is none has no tail, either.
					w.Epoch = r.Roster().Epoch
					nothing(t, fmt.Sprint(p.what, ": told by ", from), r, w, 1)
				}
			}
		}
	}
}

// A WTold of another epoch is nothing; one where it is not Active is one, whyever it is not.
func TestToldWhereItIsNotActive(t *testing.T) {
	for _, e := range []int64{0, 1, epoch - 1, epoch + 1, top} {
		r := placed(made(t, 1, 4, 9), 0, 3, 1, 4)
		w := told(4, 1, req(1, 3), 6)
		w.Epoch = e
		nothing(t, "of another epoch", r, w, 1)
	}
	r := placed(made(t, 1, 4, 9), 0, 3, 1, 4)
	r.Shelf().Enter(epoch + 1)
	w := told(4, 1, req(1, 3), 6)
	want, _ := r.known().commit(2)
	says(t, "the shelf of another epoch", r.Step(w, 1))
	knows(t, "the shelf of another epoch", r, want)
	has(t, "the shelf of another epoch", r, w)
	r = down(t, placed(made(t, 1, 4, 9), 0, 3, 1, 4))
	want = r.known()
	says(t, "the shelf is down", r.Step(w, 1))
	knows(t, "the shelf is down", r, want)
	has(t, "the shelf is down", r, w)
}

// A WDone is of Done wherever it stands, of whatever epoch and at whatever time, from whomever; if its request is its own.
func TestDone(t *testing.T) {
	for _, p := range places(t) {
		for _, isDown := range []bool{false, true} {
			r := p.make(4, 9)
			if isDown {
				down(t, r)
			}
			want := r.known()
			for _, now := range []int64{0, until, until + 1, top} {
				for from := range 6 {
					for _, e := range []int64{0, epoch - 1, epoch, epoch + 1, top} {
						for _, n := range append(reqs(), req(r.id, 1), req(r.id, base-1)) {
							w := api.Word{Kind: api.WDone, From: from, To: r.id, Epoch: e, Req: n, Res: api.Result{Err: 9, Ver: 3}}
							if from == r.id {
								continue
							}
							own := []api.Word{}
							if n/base == int64(r.id) && n%base > 0 {
								own = append(own, w)
							}
							says(t, p.what+": a WDone", r.Step(w, now))
							has(t, p.what+": a WDone", r, own...)
						}
					}
				}
			}
			knows(t, p.what+": WDones", r, want)
		}
	}
}

// Done has all, each once, in the order in which they came, also the same ones twice.
func TestDoneInOrder(t *testing.T) {
	r := placed(made(t, 1, 4, 9), 0, 3, 1, 4)
	l := []api.Word{}
	for k := range 50 {
		w := told(4, 1, req(1, int64(k%7+1)), int64(k%15))
		if k%3 > 0 {
			w = api.Word{Kind: api.WDone, From: k%3 + 2, To: 1, Epoch: int64(k % 9), Req: req(1, int64(k%5+1)), Res: api.Result{Err: api.Errno(k % 14), Ver: int64(k)}}
		}
		r.Step(w, 1)
		r.Step(told(4, 1, req(2, 1), 0), 1)
		l = append(l, w)
		if k == 20 {
			has(t, "Done", r, l...)
			l = nil
		}
	}
	has(t, "Done", r, l...)
	// What it tells itself stands among them.
	r = placed(made(t, 2, 0, 0), 0, 2)
	a, b := put("a", "", req(2, 1)), put("b", "", req(2, 2))
	other := api.Word{Kind: api.WDone, From: 4, To: 2, Epoch: 3, Req: req(2, 9)}
	r.Write(a, 1)
	r.Step(other, 1)
	r.Ask(req(2, 3), 1)
	r.Write(b, 1)
	r.Ask(77, 1)
	r.Write(a, 1)
	has(t, "of its own", r, done(2, a, api.Result{Ver: 1}), other, told(2, 2, req(2, 3), 1), done(2, b, api.Result{Ver: 2}), told(2, 2, 77, 2), done(2, a, api.Result{Ver: 1}))
}

// The words that it has no use for, whatever they are of.
func TestWordsForTheChief(t *testing.T) {
	for _, p := range places(t) {
		r := p.make(4, 9)
		for _, kind := range []int{api.WBeat, api.WFull} {
			for from := range 6 {
				for _, e := range []int64{r.Roster().Epoch, 0, epoch, epoch + 1} {
					if from != r.id {
						nothing(t, p.what, r, api.Word{Kind: kind, From: from, To: r.id, Epoch: e, Seq: 5, Req: 1, Deeds: deeds(4, 1)}, 1)
					}
				}
			}
		}
	}
}

// A tail on whose shelf somebody puts a deed: what is told as committed is the Book's, what is acknowledged the shelf's.
func TestTailWhereOneWaits(t *testing.T) {
	r := placed(made(t, 4, 4, 0), 0, 3, 1, 4)
	r.Shelf().Add(nth(5))
	says(t, "a WAsk", r.Step(ask(3, 4, 77), 1), told(4, 3, 77, 4))
	says(t, "Ask", r.Ask(77, 1))
	has(t, "Ask", r, told(4, 4, 77, 4))
	says(t, "Tick", r.Tick(1), beat(4, epoch), ack(4, 1, 5))
	says(t, "a WPass of none", r.Step(pass(1, 4, 5), 1), ack(4, 1, 5))
	says(t, "a WPass that is ahead", r.Step(pass(1, 4, 6), 1), need(4, 1, 5, 0))
	if r.Ready(nth(5).Key, 1) || r.Ready("", 1) || !r.Ready("none", 1) || r.Shelf().Book().Seq != 4 {
		t.Errorf("P13.2: a deed waits: %v", r.known())
	}
	// All that wait are committed with the next one, each is told to who wrote it.
	want, results := r.known().add(nth(6)).commit(2)
	says(t, "a WPass", r.Step(pass(1, 4, 5, nth(6)), 1), done(4, nth(5), results[0]), done(4, nth(6), results[1]), ack(4, 1, 6))
	knows(t, "a WPass", r, want)
}
