package link_test

import (
	"fmt"
	"testing"

	"armarium/api"
)

// At the head and in the middle: 4 are committed, so many wait.
func TestNeed(t *testing.T) {
	for _, p := range places(t)[:7] {
		for _, waits := range []int{0, 1, 6, 9, 60} {
			r := p.make(4, waits)
			next := r.next()
			if next == 0 {
				continue
			}
			want := r.known()
			all := 4 + waits
			for q := range all + 4 {
				for n := range int64(4) {
					what := fmt.Sprintf("%s, %d wait, a WNeed of %d behind %d", p.what, waits, n, q)
					said := []api.Word{}
					if n == 1 && next == 5 {
						said = append(said, api.Word{Kind: api.WState, From: r.id, To: 5, Epoch: epoch, Seq: int64(all), State: want.Book, Deeds: deeds(4, waits)})
					} else if 4 <= q && q < all {
						said = append(said, pass(r.id, next, int64(q), deeds(q, min(6, all-q))...))
					}
					says(t, what, r.Step(need(next, r.id, int64(q), n), until), said...)
				}
			}
			// What is far behind, too, has no end of it all.
			for _, n := range []int64{0, 2, req(5, 1), top} {
				says(t, p.what+": far behind", r.Step(need(next, r.id, top, n), until))
			}
			knows(t, p.what, r, want)
			has(t, p.what, r)
		}
	}
}

func TestNeedFromOthers(t *testing.T) {
	for _, p := range places(t) {
		r := p.make(4, 9)
		for _, from := range r.strangers() {
			for _, q := range []int64{0, 3, 4, 5, 9, 12, 13, 14} {
				for n := range int64(3) {
					nothing(t, fmt.Sprint(p.what, ": a WNeed from ", from), r, need(from, r.id, q, n), 1)
				}
			}
		}
	}
}

// The state has the book with all of its parts.
func TestNeedOfAll(t *testing.T) {
	s := api.State{
		Seq:   90,
		L:     []api.Entry{{Key: "a", Vs: []api.Version{{Ver: 3, Body: "one"}, {Ver: 7, Gone: true}}}, {Key: "b/c", Vs: []api.Version{{Ver: 80, Body: "two"}}}},
		Memos: []api.Memo{{Req: req(1, 9), Res: api.Result{Ver: 80}}, {Req: req(4, 3), Res: api.Result{Err: api.ErrMatch}}},
		Lows:  [5]int64{req(1, 8), 0, 0, req(4, 2), 0},
	}
	r := placed(at(t, 1, s, 3), 5, 1, 5)
	says(t, "all", r.Step(need(5, 1, 0, 1), 1), api.Word{Kind: api.WState, From: 1, To: 5, Epoch: epoch, Seq: 93, State: s, Deeds: deeds(0, 3)})
	// With 60 that wait, and with nothing at all.
	r = placed(at(t, 1, s, 60), 5, 1, 5)
	says(t, "60 wait", r.Step(need(5, 1, 0, 1), 1), api.Word{Kind: api.WState, From: 1, To: 5, Epoch: epoch, Seq: 150, State: s, Deeds: deeds(0, 60)})
	r = placed(made(t, 1, 0, 0), 5, 1, 5)
	says(t, "nothing", r.Step(need(5, 1, 0, 1), 1), api.Word{Kind: api.WState, From: 1, To: 5, Epoch: epoch})
	// Once it is no longer new, it is told like others.
	r.Step(write(2, 1, nth(1)), 1)
	r.lease(of(epoch, 0, 1, 5), until, 1)
	says(t, "no longer new", r.Step(need(5, 1, 0, 1), 1), pass(1, 5, 0, nth(1)))
}

// At the head and in the middle: 4 are committed, 9 wait.
func TestAck(t *testing.T) {
	for _, p := range places(t)[:7] {
		next := p.make(0, 0).next()
		if next == 0 {
			continue
		}
		for _, seq := range []int64{0, 1, 3, 4, 5, 6, 12, 13, 14, 20, 1000, top} {
			r := p.make(4, 9)
			want := r.known()
			said := []api.Word{}
			if seq > 4 {
				want, _ = want.commit(int(min(seq, 13) - 4))
			}
			if seq > 4 && r.id == 1 {
				said = append(said, ack(1, 3, min(seq, 13)))
			}
			if len(r.Roster().L) == 2 {
				said = nil
			}
			what := fmt.Sprintf("%s: a WAck of %d", p.what, seq)
			says(t, what, r.Step(ack(next, r.id, seq), until), said...)
			knows(t, what, r, want)
			has(t, what, r)
			// Once more it is nothing new.
			nothing(t, what+", once more", r, ack(next, r.id, seq), until)
		}
	}
}

func TestAckFromOthers(t *testing.T) {
	for _, p := range places(t) {
		r := p.make(4, 9)
		for _, from := range r.strangers() {
			for _, seq := range []int64{0, 4, 5, 13, 14} {
				nothing(t, fmt.Sprint(p.what, ": a WAck from ", from), r, ack(from, r.id, seq), 1)
			}
		}
	}
}

// Who commits because of another one tells nobody that it is done.
func TestAckTellsNoResult(t *testing.T) {
	l, _ := waiting()
	r := placed(made(t, 3, 0, 0), 0, 5, 3, 4)
	for _, d := range l {
		r.Shelf().Add(d)
	}
	want, _ := r.known().commit(len(l))
	says(t, "a WAck", r.Step(ack(4, 3, 99), 1), ack(3, 5, int64(len(l))))
	knows(t, "a WAck", r, want)
	has(t, "a WAck", r)
}
