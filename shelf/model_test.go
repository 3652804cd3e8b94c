package shelf_test

import (
	"fmt"
	"math/rand"
	"testing"

	"armarium/api"
	"armarium/deed"
)

func pick[T any](r *rand.Rand, l ...T) T { return l[r.Intn(len(l))] }

// deedBy is a deed of few keys and few requests, which may clash with others, and now and then one that may not be.
func deedBy(r *rand.Rand) api.Deed {
	key, n, body := pick(r, "a", "b", "c", "d/e"), int64(1+r.Intn(30)), pick(r, "", "x", "y", all())
	switch r.Intn(8) {
	case 0:
		return del(n, key)
	case 1:
		return purge(n, key, 1+r.Int63n(40))
	case 2:
		return matched(put(n, key, body), api.CAbsent, "")
	case 3:
		return matched(put(n, key, body), api.CMatch, deed.Tag(pick(r, "", "x", "y")))
	case 4:
		return lowered(put(n, key, body), req(1, 1+r.Int63n(n)))
	case 5:
		return pick(r, append(mays(), mayNots()...)...)
	}
	return put(n, key, body)
}

// step does one thing to both.
func step(x *both, r *rand.Rand) {
	x.t.Helper()
	at, seq, epoch := x.m.book.Seq, x.m.seq(), x.m.epoch
	switch r.Intn(12) {
	case 0, 1, 2, 3:
		for range 1 + r.Intn(3) {
			x.add(deedBy(r))
		}
	case 4, 5:
		x.commit(at + r.Int63n(seq-at+1))
	case 6:
		x.commit(pick(r, seq, seq, seq+1, at, at-1, at+1, 0, -1))
	case 7:
		x.enter(epoch + pick(r, int64(-1), 0, 1, 1, 2, 100))
	case 8:
		x.pack()
	case 9:
		x.fall("a fall", x.c.Tear(pick(r, -1, 0, 1, r.Intn(60), r.Intn(300))))
	case 10:
		x.fall("opened again", x.c)
	case 11:
		l := []api.Deed{}
		for range r.Intn(4) {
			l = append(l, deedBy(r))
		}
		x.learn("a book", pick(r, x.s.Book(), x.s.Book(), api.State{}, some(), api.State{Seq: -1}), l)
	}
}

// Shelves and their models go one way, whatever is done to them.
func TestAsTheModel(t *testing.T) {
	t.Parallel()
	for seed := range 400 {
		r := rand.New(rand.NewSource(int64(seed)))
		x := roomy(t, fmt.Sprint("as the model, ", seed))
		for range 30 {
			step(x, r)
		}
	}
}
