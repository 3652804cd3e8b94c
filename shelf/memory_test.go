package shelf_test

import (
	"fmt"
	"slices"
	"testing"

	"armarium/api"
	"armarium/book"
)

// behind is l with room, where x stands.
func behind[T any](l []T, room int, x T) []T {
	l = slices.Clone(l)
	n := len(l)
	for range room {
		l = append(l, x)
	}
	return l[:n]
}

// withRoom is s with room behind each of its lists, where something stands.
func withRoom(s api.State, room int) api.State {
	s = clone(s)
	for k := range s.L {
		s.L[k].Vs = behind(s.L[k].Vs, room, there(-5, "behind"))
	}
	s.L = behind(s.L, room, entry("behind", there(-5, "behind")))
	s.Memos = behind(s.Memos, room, memo(-5, 5, 5))
	return s
}

// whole is s with all that stands in the room behind its lists.
func whole(s api.State) api.State {
	s.L = slices.Clone(s.L[:cap(s.L)])
	for k := range s.L {
		s.L[k].Vs = s.L[k].Vs[:cap(s.L[k].Vs)]
	}
	s.Memos = s.Memos[:cap(s.Memos)]
	return s
}

// spoil writes over all that s has, and over the room behind its lists.
func spoil(s api.State) {
	for _, e := range s.L[:cap(s.L)] {
		spoilAll(e.Vs, there(-77, "spoilt"))
	}
	spoilAll(s.L, entry("spoilt", there(-77, "spoilt")))
	spoilAll(s.Memos, memo(-77, -77, -77))
}

func spoilAll[T any](l []T, x T) {
	l = l[:cap(l)]
	for k := range l {
		l[k] = x
	}
}

var spoilt = api.Deed{Kind: -77, Key: "spoilt"}

// spoilTold writes over all that the shelf tells, behind a second answer of the same, which stays as it was.
func (x *both) spoilTold(what string) {
	x.t.Helper()
	b, p, l, again := x.s.Book(), x.s.Pend(), x.s.Pend(), x.s.Book()
	spoil(b)
	spoilAll(p, spoilt)
	if !book.Eq(again, x.m.book) || !slices.Equal(l, x.m.pend) {
		x.t.Fatalf("P8.2, %s: %s: another answer is spoilt", x.what, what)
	}
	x.holds(what + ", what was told is spoilt")
}

// What is told is the caller's own, at once and behind each call that comes later.
func TestToldIsTheCallersOwn(t *testing.T) {
	x := roomy(t, "the caller's own")
	type answer struct {
		b   api.State
		p   []api.Deed
		l   []api.Result
		is  model
		was []api.Result
	}
	answers := []answer{}
	for k, c := range append(story(), story()...) {
		before := answer{b: x.s.Book(), p: x.s.Pend(), is: x.m}
		if k%3 == 0 {
			before.l, _ = x.commit(x.s.Book().Seq + int64(len(x.s.Pend())/2))
			before.was = slices.Clone(before.l)
		}
		c.do(x)
		// Of an answer nothing turns while calls come behind it.
		if !book.Eq(before.b, before.is.book) || !slices.Equal(before.p, before.is.pend) {
			t.Fatalf("P8.2: what was told ahead of %s is not what it was", c.what)
		}
		answers = append(answers, before)
		x.spoilTold(c.what)
		if k%5 == 4 {
			for _, a := range answers {
				if !slices.Equal(a.l, a.was) {
					t.Fatalf("P8.2: the Results of a Commit are not what they were: %v, not %v", a.l, a.was)
				}
				spoil(a.b)
				spoilAll(a.p, spoilt)
				spoilAll(a.l, api.Result{Err: -77, Ver: -77})
			}
			answers = nil
			x.holds(c.what + ", all that was told is spoilt")
		}
	}
}

// The room behind what is told is the caller's own, too, when the shelf's lists have grown.
func TestRoomBehindWhatIsTold(t *testing.T) {
	x := roomy(t, "the room behind")
	pends, bs := [][]api.Deed{}, []api.State{}
	for k := range int64(50) {
		x.fine(x.add(lowered(put(k+1, fmt.Sprint("k", k%9), fmt.Sprint(k)), req(1, k/2+1))))
		pends, bs = append(pends, x.s.Pend()), append(bs, x.s.Book())
		if k%4 == 3 {
			x.commits(x.s.Seq() - k%3)
		}
		for _, p := range pends {
			spoilAll(p[len(p):], spoilt)
		}
		for _, b := range bs {
			spoilAll(b.L[len(b.L):], entry("spoilt"))
			spoilAll(b.Memos[len(b.Memos):], memo(-7, -7, -7))
			for _, e := range b.L {
				spoilAll(e.Vs[len(e.Vs):], there(-7, "spoilt"))
			}
		}
		x.holds("the room behind all answers is spoilt")
	}
}

// What was handed in stays as it was, the room behind it, too, and may be changed afterwards.
func TestHandedIn(t *testing.T) {
	t.Parallel()
	for what, b := range books() {
		for _, room := range []int{0, 1, 7} {
			x := roomy(t, fmt.Sprintf("%s, handed in with room %d", what, room))
			in, deeds := withRoom(b, room), behind(mays(), room, spoilt)
			was, list := whole(clone(whole(in))), slices.Clone(deeds[:cap(deeds)])
			same := func(when string) {
				t.Helper()
				if !sameLists(whole(in), was) || !slices.Equal(deeds[:cap(deeds)], list) {
					t.Fatalf("P0.3: %s, %s: what was handed in is not what it was", x.what, when)
				}
			}
			x.fine(x.learn(what, in, deeds))
			same("Learn")
			x.fine(x.add(put(999, "more", "")))
			x.commits(x.s.Seq() - 2)
			x.fine(x.pack(), x.enter(3), x.add(put(1000, "more", "x")))
			same("behind Learn")
			x.fine(x.learn(what, in, deeds))
			x.commits(x.s.Book().Seq + 5)
			bad := append(slices.Clone(deeds), api.Deed{})
			if x.s.Learn(in, bad) != api.ErrForm {
				t.Errorf("P8.1: Learn of a zero deed")
			}
			same("Learn again")
			x.fine(x.learn(what, in, deeds))
			spoil(in)
			spoilAll(deeds, spoilt)
			x.holds("what was handed in is spoilt")
			x.commits(x.s.Seq())
			x.fine(x.pack())
		}
	}
}

// sameLists tells whether a and b have the same, what no book may have, too.
func sameLists(a, b api.State) bool {
	return a.Seq == b.Seq && a.Lows == b.Lows && slices.Equal(a.Memos, b.Memos) &&
		slices.EqualFunc(a.L, b.L, func(c, d api.Entry) bool { return c.Key == d.Key && slices.Equal(c.Vs, d.Vs) })
}

// A shelf's own answers, handed in to it and to others.
func TestToldHandedIn(t *testing.T) {
	x, y := roomy(t, "one that tells"), roomy(t, "one that learns")
	x.fine(x.learn("some", some(), mays()))
	x.commits(75)
	b, p := x.s.Book(), x.s.Pend()
	x.fine(x.learn("its own", b, p))
	y.fine(y.learn("another one's", b, p))
	spoil(b)
	spoilAll(p, spoilt)
	x.holds("spoilt")
	y.holds("spoilt")
	y.fine(y.learn("half of another one's", x.s.Book(), x.s.Pend()[3:5]))
	x.commits(x.s.Seq())
	y.commits(y.s.Seq())
	x.holds("another one's Commit")
}
