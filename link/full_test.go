package link_test

import (
	"fmt"
	"reflect"
	"testing"

	"armarium/api"
)

// rooms has do be done by replicas whose chests have room for each number of bytes, up to one at which all is done, and a
// few more. It asks of each that neither is down where it was all done; that what is down answers nothing any more; and
// that what it told of itself lasts.
func rooms(t *testing.T, what string, make func() replica, do func(r replica) []api.Word, whole func(k known) known, check func(what string, r replica, was known, said []api.Word)) {
	t.Helper()
	enough := 0
	words := grid(make().id)
	for room := 0; enough < 5; room++ {
		if room > 20000 {
			t.Fatalf("P13.1: %s: it never has enough room", what)
		}
		r := make()
		was := r.known()
		fill(t, r.chest, room)
		said := do(r)
		what := fmt.Sprintf("%s, with room for %d", what, room)
		if !r.Shelf().Down() {
			knows(t, what, r, whole(was))
			enough++
		} else if enough > 0 {
			t.Fatalf("P13.1: %s: down, with more room than is enough", what)
		}
		check(what, r, was, said)
		if r.Shelf().Down() {
			isDown(t, what, r, words, room)
		}
		f := r.fall(t, 0)
		if a, b := f.known(), r.known(); a.Seq != b.Seq || a.Epoch != b.Epoch || a.Learnt != b.Learnt || a.Down {
			t.Errorf("P13.1: %s: behind a fall %v, not %v", what, a, b)
		}
	}
}

// isDown asks that r does nothing, by some of the words, at each room by other ones.
func isDown(t *testing.T, what string, r replica, words []api.Word, room int) {
	t.Helper()
	r.Done()
	was := r.known()
	if r.Active(0) || r.Ready("none", 0) || len(r.Tick(0)) != 0 {
		t.Errorf("P13.2: %s: Active, Ready or a Tick", what)
	}
	for k, w := range words {
		if k%97 == room%97 && w.Kind != api.WLease && w.Kind != api.WDone && w.Kind != api.WTold && w.From != w.To && w.Epoch == epoch {
			if got := r.Step(w, 0); len(got) != 0 {
				t.Fatalf("P13.1: %s: down, and it says %s", what, short(got))
			}
		}
	}
	knows(t, what, r, was)
	has(t, what, r)
}

func TestWriteWithoutRoom(t *testing.T) {
	d := others(1)[0]
	d.Req = req(5, 9)
	// With a next one: either it is added and passed on, or there is nothing.
	rooms(t, "a WWrite at the head", func() replica { return placed(made(t, 3, 4, 2), 0, 3, 1) }, func(r replica) []api.Word { return r.Step(write(5, 3, d), 1) },
		func(k known) known { return k.add(d) },
		func(what string, r replica, was known, said []api.Word) {
			has(t, what, r)
			if !r.Shelf().Down() {
				says(t, what, said, pass(3, 1, 6, d))
				return
			}
			was.Down = true
			says(t, what, said)
			knows(t, what, r, was)
		})
	// Alone: it may be added, and not committed.
	rooms(t, "a WWrite alone", func() replica { return placed(made(t, 2, 4, 2), 0, 2) }, func(r replica) []api.Word { return r.Step(write(5, 2, d), 1) },
		func(k known) known { k, _ = k.add(d).commit(1); return k },
		func(what string, r replica, was known, said []api.Word) {
			has(t, what, r)
			if !r.Shelf().Down() {
				says(t, what, said, done(2, d, api.Result{Ver: 7}))
				return
			}
			says(t, what, said)
			was.Down = true
			if r.Shelf().Seq() > 6 {
				was = was.add(d)
			}
			knows(t, what, r, was)
		})
}

// In the middle those that were added ahead of the error are passed on.
func TestPassWithoutRoom(t *testing.T) {
	l := deeds(6, 3)
	seen := map[int]bool{}
	rooms(t, "a WPass in the middle", func() replica { return placed(made(t, 1, 4, 2), 0, 3, 1, 5) }, func(r replica) []api.Word { return r.Step(pass(3, 1, 6, l...), 1) },
		func(k known) known { return k.add(l...) },
		func(what string, r replica, was known, said []api.Word) {
			n := int(r.Shelf().Seq() - 6)
			seen[n] = true
			was = was.add(l[:n]...)
			was.Down = n < 3
			knows(t, what, r, was)
			has(t, what, r)
			if n > 0 {
				says(t, what, said, pass(1, 5, 6, l[:n]...))
			} else {
				says(t, what, said)
			}
		})
	if len(seen) != 4 {
		t.Errorf("P13.1: so many were added: %v", seen)
	}
}

// At the tail nothing is told as done that was not committed, and nothing as committed that does not last.
func TestPassWithoutRoomAtTheTail(t *testing.T) {
	l := deeds(6, 3)
	rooms(t, "a WPass at the tail", func() replica { return placed(made(t, 5, 6, 0), 0, 3, 5) }, func(r replica) []api.Word { return r.Step(pass(3, 5, 6, l...), 1) },
		func(k known) known { k, _ = k.add(l...).commit(3); return k },
		func(what string, r replica, was known, said []api.Word) {
			said, own := splits(5, append(said, r.Done()...))
			for _, w := range append(said, own...) {
				switch {
				case w.Kind == api.WAck && w.To == 3 && w.Seq <= r.Shelf().Seq() && w.Epoch == epoch:
				case w.Kind == api.WDone && !r.Shelf().Down():
				default:
					t.Errorf("P13.1: %s: %s, %v", what, short([]api.Word{w}), r.known())
				}
			}
			if !r.Shelf().Down() && len(said)+len(own) != 4 {
				t.Errorf("P13.1: %s: %s", what, short(append(said, own...)))
			}
		})
}

// A lease by which it becomes the tail: either all is committed, or nobody is told anything.
func TestLeaseWithoutRoom(t *testing.T) {
	rooms(t, "a WLease", func() replica { return placed(made(t, 1, 4, 3), 0, 3, 1, 4) }, func(r replica) []api.Word { return r.lease(of(epoch+1, 0, 3, 1), until, 1) },
		func(k known) known {
			k, _ = k.commit(3)
			k.Roster, k.Epoch = of(epoch+1, 0, 3, 1), epoch+1
			return k
		},
		func(what string, r replica, was known, said []api.Word) {
			_, results := was.commit(3)
			n := 0
			for k, w := range append(said, r.Done()...) {
				n++
				if w.Kind != api.WDone || !reflect.DeepEqual(results[map[int64]int{5: 0, 6: 1, 7: 2}[w.Req%base]], w.Res) {
					t.Errorf("P13.1: %s: %d is %s", what, k, short([]api.Word{w}))
				}
			}
			if n != map[bool]int{false: 3, true: 0}[r.Shelf().Down()] {
				t.Errorf("P13.1: %s: %d are told", what, n)
			}
		})
}

// Of a state either all is learnt, and lasts, or nothing.
func TestStateWithoutRoom(t *testing.T) {
	rooms(t, "a WState", func() replica { return placed(made(t, 5, 4, 3), 5, 3, 5) }, func(r replica) []api.Word { return r.Step(state(3, 5, other(), deeds(0, 2)...), 1) },
		func(k known) known {
			k.Book, k.Pend, k.Seq, k.Learnt = other(), nil, 90, epoch
			k, _ = k.add(deeds(0, 2)...).commit(2)
			return k
		},
		func(what string, r replica, was known, said []api.Word) {
			has(t, what, r)
			if !r.Shelf().Down() {
				says(t, what, said, full(5), ack(5, 3, 92))
			}
			if r.Shelf().Learnt() != epoch {
				was.Down = true
				says(t, what, said)
				knows(t, what, r, was)
			}
		})
}

// Another one's word of what is committed: either it is done, or not.
func TestAckWithoutRoom(t *testing.T) {
	for k, w := range []api.Word{ack(4, 1, 6), told(4, 1, req(2, 1), 6)} {
		rooms(t, "a WAck, or a WTold", func() replica { return placed(made(t, 1, 4, 3), 0, 3, 1, 4) }, func(r replica) []api.Word { return r.Step(w, 1) },
			func(k known) known { k, _ = k.commit(2); return k },
			func(what string, r replica, was known, said []api.Word) {
				has(t, what, r)
				if r.Shelf().Down() || k == 1 {
					says(t, what, said)
				} else {
					says(t, what, said, ack(1, 3, 6))
				}
				if r.Shelf().Down() {
					was.Down = true
					knows(t, what, r, was)
				}
			})
	}
}
