package book_test

import (
	"fmt"
	"slices"
	"testing"

	"armarium/api"
	"armarium/book"
)

// roomy is s with room behind each of its lists, where something stands.
func roomy(s api.State, room int) api.State {
	s = clone(s)
	for k := range s.L {
		s.L[k].Vs = behind(s.L[k].Vs, room, there(-5, "behind"))
	}
	s.L = behind(s.L, room, entry("behind", versions(3, 9)...))
	s.Memos = behind(s.Memos, room, memo(-5, 5, 5))
	return s
}

// behind is l with room, where x stands.
func behind[T any](l []T, room int, x T) []T {
	n := len(l)
	for range room {
		l = append(l, x)
	}
	return l[:n]
}

// whole is s with all that stands in the room behind its lists.
func whole(s api.State) api.State {
	s.L = slices.Clone(s.L[:cap(s.L)])
	for k := range s.L {
		s.L[k].Vs = s.L[k].Vs[:cap(s.L[k].Vs)]
	}
	s.Memos = s.Memos[:cap(s.Memos)]
	return s
}

// spoil writes over all that s has, and over the room behind its lists.
func spoil(s api.State) {
	spoilEntries(s.L)
	memos := s.Memos[:cap(s.Memos)]
	for k := range memos {
		memos[k] = memo(-77, -77, -77)
	}
}

func spoilEntries(l []api.Entry) {
	l = l[:cap(l)]
	for k := range l {
		vs := l[k].Vs[:cap(l[k].Vs)]
		for n := range vs {
			vs[n] = there(-77, "spoilt")
		}
		l[k] = entry("spoilt", there(-77, "spoilt"))
	}
}

// doings are deeds that go each of the ways of Do with some, little and others.
func doings() []api.Deed {
	return []api.Deed{
		{}, put("a", "x"), put("a/b", "x"), put("0", "ahead"), put("new", "x"), put("zzz", "behind"), matched(put("a/b", ""), 1, ""), del("a"), del("b"), del("z_9"), del("none"),
		purge("a", 2), purge("a", 5), purge("a/b", 9), purge("b", 7), purge("c.d", 11), purge("z_9", 1), purge("z_9", 2), purge("none", 2),
		by(put("a", "x"), req(1, 1), 0), by(put("a", "x"), req(1, 5), 0), by(put("a", "x"), req(1, 10), req(1, 10)), by(put("new", "x"), req(1, 10), req(1, 6)), by(del("none"), req(5, 7), req(5, 7)),
	}
}

// books are books that Do is asked of: some may not be, one is at its end, one has all memos.
func books() []api.State {
	bad, end, full := some(), some(), some()
	bad.Seq, end.Seq, full.Seq = 3, top, 700
	full.Memos, full.Lows = asked(100, 1, 2, 3), [5]int64{}
	return []api.State{{}, some(), little(), bad, end, full, ofKey(39, versions(12, 70)), many(41)}
}

func TestDoLeavesWhatIsHandedIn(t *testing.T) {
	for k, b := range books() {
		for _, room := range []int{0, 1, 2, 20} {
			for _, d := range doings() {
				s := roomy(b, room)
				was := clone(whole(s))
				u, _ := book.Do(s, d)
				if !same(whole(s), was) || !same(s, b) {
					t.Errorf("P0.3: Do of %+v changes the book %d, room for %d", d, k, room)
				}
				spoil(u)
				if !same(whole(s), was) {
					t.Errorf("P0.3: what Do of %+v to the book %d answers shares its memory, room for %d", d, k, room)
				}
			}
		}
	}
}

func TestTwoAnswersOfDo(t *testing.T) {
	for k, b := range books() {
		for _, room := range []int{0, 1, 20} {
			s := roomy(b, room)
			for _, d := range doings() {
				for _, other := range doings() {
					apart(t, fmt.Sprintf("the book %d, room for %d, %+v, %+v", k, room, d, other), s, d, other)
				}
			}
		}
	}
}

// apart asks that what Do answers of d stays while it is asked of another one, and while what that answers is spoilt.
func apart(t *testing.T, what string, s api.State, d, other api.Deed) {
	t.Helper()
	u, r := book.Do(s, d)
	was := clone(whole(u))
	x, _ := book.Do(s, other)
	y, _ := book.Do(u, other)
	spoil(x)
	spoil(y)
	if !same(whole(u), was) {
		t.Errorf("P0.3: two answers of Do share memory: %s", what)
	}
	first := clone(u)
	spoil(u)
	if again, is := book.Do(s, d); is != r || !same(again, first) {
		t.Errorf("P0.5: Do answers something else when it is asked again: %s", what)
	}
}

func TestListsOfOneAnswerAreApart(t *testing.T) {
	for _, s := range append(books(), api.State{Seq: 3, L: []api.Entry{entry("a"), entry("b"), entry("c")}}) {
		// one list in the places of all
		one := behind(versions(3, 3), 5, gone(9))
		for k := range s.L {
			s.L[k].Vs = one
		}
		for _, d := range doings() {
			u, _ := book.Do(s, d)
			for k := range u.L {
				for n := range k {
					was := slices.Clone(u.L[n].Vs)
					spoilEntries(u.L[k : k+1 : k+1])
					if !slices.Equal(u.L[n].Vs, was) {
						t.Fatalf("P0.3: two lists of one answer of Do share memory: %+v", d)
					}
				}
			}
		}
	}
}

func TestReadAnswersNewMemory(t *testing.T) {
	for _, s := range []api.State{some(), little(), many(40), greatest(), {Seq: 3}} {
		text := book.Put(s)
		first, _ := book.Read(text)
		second, _ := book.Read(text)
		spoil(first)
		if third, err := book.Read(text); !same(second, s) || !same(third, s) || err != api.OK {
			t.Errorf("P0.3: two answers of Read share memory: %s", short(second))
		}
	}
}

func TestPagesAnswerNewMemory(t *testing.T) {
	for _, b := range []api.State{some(), mixed(40), many(40), many(41), {Seq: 3}} {
		for _, room := range []int{0, 1, 20} {
			for _, most := range []int{1, 2, 19, 20, 40} {
				s := roomy(b, room)
				was := clone(whole(s))
				names, more := book.Names(s, "", "", most)
				wanted := slices.Clone(names)
				entries, moreKeys := book.Versions(s, "", "", most)
				others, _ := book.Versions(s, "", "", most)
				wantedKeys := clone(api.State{L: others})
				for k := range names[:cap(names)] {
					names[:cap(names)][k] = "spoilt"
				}
				spoilEntries(entries)
				again, is := book.Names(s, "", "", most)
				keys, isKeys := book.Versions(s, "", "", most)
				if !same(whole(s), was) || !slices.Equal(again, wanted) || is != more || isKeys != moreKeys || !same(api.State{L: keys}, wantedKeys) || !same(api.State{L: others}, wantedKeys) {
					t.Errorf("P0.3: Names or Versions share memory, room for %d, %d at most", room, most)
				}
			}
		}
	}
}

func TestOthersLeaveWhatIsHandedIn(t *testing.T) {
	for k, b := range books() {
		for _, room := range []int{0, 1, 20} {
			s, other := roomy(b, room), roomy(some(), room)
			was, otherWas := clone(whole(s)), clone(whole(other))
			book.May(s)
			book.Eq(s, other)
			book.Eq(other, s)
			book.Put(s)
			for ver := range int64(80) {
				book.Get(s, "a/b", ver)
				book.Get(s, "key", ver)
				book.Told(s, req(1, ver))
			}
			for _, after := range []string{"", "a", "k"} {
				book.Names(s, "", after, 3)
				book.Versions(s, after, "", 3)
			}
			if !same(whole(s), was) || !same(whole(other), otherWas) {
				t.Errorf("P0.3: the book %d does not stay as it was, room for %d", k, room)
			}
		}
	}
}
