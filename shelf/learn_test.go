package shelf_test

import (
	"fmt"
	"math"
	"slices"
	"testing"

	"armarium/api"
)

func TestLearn(t *testing.T) {
	t.Parallel()
	for what, b := range books() {
		for _, n := range []int{0, 1, 59, 60} {
			x := roomy(t, fmt.Sprintf("Learn of %s and %d", what, n))
			x.fine(x.add(put(1, "before", "x")), x.add(put(2, "before", "y")))
			x.commits(1)
			x.fine(x.learn(what, b, puts(n)))
			if x.s.Learnt() != 0 {
				t.Errorf("P8.1: Learnt with Epoch 0: %d", x.s.Learnt())
			}
			x.fine(x.enter(5), x.learn(what, b, puts(n)))
			if x.s.Learnt() != 5 || x.s.Epoch() != 5 {
				t.Errorf("P8.1: Learnt %d, Epoch %d, not 5", x.s.Learnt(), x.s.Epoch())
			}
			x.fine(x.enter(8))
			x.fall("a fall", x.c.Tear(0))
			x.commits(x.s.Seq())
			x.fine(x.add(put(base-1, "behind", "")), x.learn("its own Book", x.s.Book(), x.s.Pend()))
			if x.s.Learnt() != 8 {
				t.Errorf("P8.1: Learnt %d, not 8", x.s.Learnt())
			}
		}
	}
}

func TestLearnOfAllKindsOfDeeds(t *testing.T) {
	x := roomy(t, "Learn of deeds of all kinds")
	x.fine(x.learn("nothing and deeds", api.State{}, mays()), x.learn("some and deeds", some(), mays()))
	x.commits(x.s.Seq())
	l := slices.Clone(mays())
	slices.Reverse(l)
	x.fine(x.learn("some and deeds, the other way round", some(), l))
	x.commits(x.s.Seq())
}

// unlearnt asks that Learn is ErrForm, and turns and writes nothing.
func unlearnt(x *both, what string, b api.State, l []api.Deed) {
	x.t.Helper()
	was, before := rolls(x.c), told(x.s)
	if err := x.s.Learn(b, l); err != api.ErrForm {
		x.t.Errorf("P8.1: Learn of %s: error %d", what, err)
	}
	if !before.is(told(x.s)) || rolls(x.c) != was {
		x.t.Errorf("P8.1: Learn of %s turns something", what)
	}
}

func TestLearnOfWhatMayNotBe(t *testing.T) {
	x := roomy(t, "Learn of what may not be")
	x.fine(x.enter(4), x.learn("some", some(), puts(3)), x.enter(6))
	for _, begin := range []func(){func() {}, func() { x.commits(72) }, func() { x.fine(x.pack()) }} {
		begin()
		for what, b := range noBooks() {
			unlearnt(x, what, b, nil)
			unlearnt(x, what+" and deeds", b, puts(2))
		}
		for _, d := range mayNots() {
			for _, at := range []int{0, 1, 2} {
				l := puts(3)
				l[at] = d
				unlearnt(x, fmt.Sprintf("%+v at %d", d, at), some(), l)
			}
			unlearnt(x, fmt.Sprintf("%+v", d), api.State{}, []api.Deed{d})
			unlearnt(x, fmt.Sprintf("%+v at the end", d), api.State{}, append(puts(59), d))
		}
		x.holds("what may not be")
	}
	x.commits(x.s.Seq())
	x.fine(x.add(put(1000, "a", "")))
}

func TestLearnOfTooManyDeeds(t *testing.T) {
	x := roomy(t, "Learn of too many")
	for _, n := range []int{61, 62, 100, 1000} {
		unlearnt(x, fmt.Sprint(n, " deeds"), api.State{}, puts(n))
		unlearnt(x, fmt.Sprint(n, " zero deeds"), api.State{}, make([]api.Deed, n))
		unlearnt(x, fmt.Sprint("some and ", n), some(), puts(n))
	}
	x.fine(x.learn("60 deeds", some(), puts(60)))
}

func TestLearnOfTheLastNumbers(t *testing.T) {
	t.Parallel()
	x := roomy(t, "Learn of the last numbers")
	for _, n := range []int{0, 1, 2, 59, 60} {
		seq := top - int64(n)
		x.fine(x.learn("as many as there are numbers", api.State{Seq: seq}, puts(n)), x.learn("as many, greatest", greatest(seq), puts(n)))
		x.commits(x.s.Seq())
		if x.s.Book().Seq != top || x.s.Seq() != top {
			t.Errorf("P8.1: Commit up to the last number: %d, %d", x.s.Book().Seq, x.s.Seq())
		}
		if n < 60 {
			unlearnt(x, fmt.Sprint("one deed too many, behind ", n), api.State{Seq: seq}, puts(n+1))
			unlearnt(x, fmt.Sprint("60, not ", n), greatest(seq), puts(60))
		}
		for _, more := range []int64{1, 2, 60, math.MaxInt64 - seq} {
			unlearnt(x, fmt.Sprint("a Seq too great, and ", n), api.State{Seq: seq + more}, puts(n))
		}
	}
}

// Learn lays all anew: nothing of what was there before stays, and LOG does not grow.
func TestLearnLaysAnew(t *testing.T) {
	x := roomy(t, "laid anew")
	x.fine(x.enter(3), x.learn("some", some(), puts(2)))
	want := rolls(x.c)
	for k := range int64(40) {
		x.fine(x.add(put(100+k, "a", xs(300))))
	}
	x.commits(90)
	x.fine(x.learn("some", some(), puts(2)))
	if got := rolls(x.c); got != want {
		t.Errorf("P8.1: laid anew: %.600s, not %.600s", got, want)
	}
}

func TestPack(t *testing.T) {
	t.Parallel()
	for what, x := range starts(t) {
		x.fine(x.pack(), x.pack())
		was := rolls(x.c)
		x.fine(x.pack())
		if rolls(x.c) != was {
			t.Errorf("P8.2: %s: Pack again turns the rolls", what)
		}
		x.fall("a fall", x.c.Tear(0))
		x.fine(x.pack())
		x.commits((x.s.Book().Seq + x.s.Seq() + 1) / 2)
		x.fine(x.pack())
		if len(x.lasts) != 1 {
			t.Fatalf("%s: a Commit ahead of a Pack lasts", what)
		}
		x.fine(x.enter(9), x.pack())
		x.commits(x.s.Seq())
		x.fine(x.pack())
		x.fall("a fall", x.c.Tear(0))
		if len(x.s.Pend()) != 0 {
			t.Errorf("P8.2: %s: of Commits ahead of Pack %d are not there", what, len(x.s.Pend()))
		}
	}
}

// Pack makes a long LOG short: what is done is not kept.
func TestPackIsShort(t *testing.T) {
	t.Parallel()
	x := begin(t, "a long LOG", 20000)
	for k := range int64(200) {
		x.fine(x.add(lowered(put(k+1, "a", xs(300)), req(1, k+1))))
		x.commits(x.s.Seq())
		if k%2 == 1 {
			x.fine(x.add(lowered(purge(k+1, "a", k), req(3, k+1))))
		}
		if k%20 == 19 {
			x.fine(x.pack())
		}
	}
}
