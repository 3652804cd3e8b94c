package shelf_test

import (
	"math"
	"testing"

	"armarium/api"
	"armarium/book"
	"armarium/deed"
	"armarium/roll"
	"armarium/shelf"
)

// What the other tests take as right or wrong is so.
func TestThings(t *testing.T) {
	for _, d := range mays() {
		if !deed.May(d) {
			t.Errorf("it may be: %+v", d)
		}
	}
	for _, d := range mayNots() {
		if deed.May(d) {
			t.Errorf("it may not be: %+v", d)
		}
	}
	for what, b := range books() {
		if !book.May(b) {
			t.Errorf("it may be: %s", what)
		}
	}
	for what, b := range noBooks() {
		if book.May(b) {
			t.Errorf("it may not be: %s", what)
		}
	}
}

// tellsNothing asks for what a fresh shelf tells.
func tellsNothing(t *testing.T, what string, s *shelf.Shelf) {
	t.Helper()
	if !book.Eq(s.Book(), api.State{}) || len(s.Pend()) != 0 || s.Seq() != 0 || s.Epoch() != 0 || s.Learnt() != 0 || s.Down() {
		t.Errorf("P8.1: %s: %s, Seq %d", what, told(s), s.Seq())
	}
}

func TestFresh(t *testing.T) {
	for _, room := range []int{30, 1000, 1 << 20} {
		c := roll.New(room)
		tellsNothing(t, "a fresh shelf", opened(t, "P8.2", c))
		tellsNothing(t, "a fresh shelf, opened again", opened(t, "P8.2", c))
		for _, n := range []int{-1, 0, 1, 11, 1 << 20} {
			tellsNothing(t, "a fresh shelf, torn", opened(t, "P8.2", c.Tear(n)))
		}
	}
	tellsNothing(t, "a torn chest of which nothing was there", opened(t, "P8.2", roll.New(100).Tear(5)))
	if s, err := shelf.Open(&roll.Chest{}); s != nil || err != api.ErrDown {
		t.Errorf("P8.2: Open of a chest without room: %v, error %d", s, err)
	}
}

func TestEachCallOfAFreshShelf(t *testing.T) {
	for what, do := range map[string]func(x *both){
		"Add":    func(x *both) { x.fine(x.add(put(1, "a", "x"))) },
		"Commit": func(x *both) { x.commits(0) },
		"Enter":  func(x *both) { x.fine(x.enter(x.s.Epoch() + 1)) },
		"Learn":  func(x *both) { x.fine(x.learn("some", some(), puts(3))) },
		"Pack":   func(x *both) { x.fine(x.pack()) },
		"wrong":  func(x *both) { x.add(api.Deed{}); x.commit(1); x.enter(0); x.learn("none", api.State{Seq: -1}, nil) },
	} {
		x := roomy(t, "a fresh shelf: "+what)
		do(x)
		x.fall("a fall", x.c.Tear(0))
		do(x)
		x.fall("opened again", x.c)
	}
}

func TestWhatIsTold(t *testing.T) {
	x := roomy(t, "one behind the other")
	tells := func(seq, all, epoch, learnt int64, pend ...string) {
		t.Helper()
		l := x.s.Pend()
		if x.s.Book().Seq != seq || x.s.Seq() != all || x.s.Epoch() != epoch || x.s.Learnt() != learnt || len(l) != len(pend) || x.s.Down() {
			t.Fatalf("P8.1: %s", told(x.s))
		}
		for k, key := range pend {
			if l[k].Key != key {
				t.Errorf("P8.1: Pend has %q at %d, not %q", l[k].Key, k, key)
			}
		}
	}
	tells(0, 0, 0, 0)
	x.fine(x.add(put(1, "a", "x")))
	tells(0, 1, 0, 0, "a")
	x.fine(x.add(del(1, "b")), x.add(put(2, "a", "y")), x.add(purge(1, "a", 1)))
	tells(0, 4, 0, 0, "a", "b", "a", "a")
	x.commits(1)
	tells(1, 4, 0, 0, "b", "a", "a")
	x.fine(x.enter(3))
	tells(1, 4, 3, 0, "b", "a", "a")
	x.commits(3)
	tells(3, 4, 3, 0, "a")
	if b := x.s.Book(); len(b.L) != 1 || len(b.L[0].Vs) != 2 || b.L[0].Vs[1] != there(3, "y") || len(b.Memos) != 3 {
		t.Errorf("P8.1: Book %+v", b)
	}
	x.fine(x.pack())
	tells(3, 4, 3, 0, "a")
	x.fine(x.learn("some", some(), []api.Deed{put(50, "q", ""), del(70, "r")}))
	tells(70, 72, 3, 3, "q", "r")
	x.fine(x.enter(10))
	tells(70, 72, 10, 3, "q", "r")
	x.commits(72)
	tells(72, 72, 10, 3)
	x.fine(x.learn("nothing", api.State{}, nil))
	tells(0, 0, 10, 10)
}

func TestAdd(t *testing.T) {
	x := roomy(t, "what may be")
	for _, d := range mays() {
		x.fine(x.add(d))
	}
	x.commits(int64(len(mays())))
}

func TestAddOfWhatMayNotBe(t *testing.T) {
	for what, begin := range map[string]func(x *both){
		"nothing": func(*both) {}, "some": func(x *both) { x.fine(x.learn("some", some(), puts(2))) },
		"60 that wait": func(x *both) { x.fine(x.learn("60", api.State{}, puts(60))) }, "no number left": func(x *both) { x.fine(x.learn("2^40", api.State{Seq: top}, nil)) },
	} {
		x := roomy(t, "Add to "+what)
		begin(x)
		was := rolls(x.c)
		for _, d := range mayNots() {
			if err := x.add(d); err != api.ErrForm {
				t.Errorf("P8.1: Add to %s, of %+v: error %d", what, d, err)
			}
		}
		if rolls(x.c) != was {
			t.Errorf("P8.1: Add of what may not be, to %s, writes", what)
		}
	}
}

// The same deed may be added again.
func TestAddTwice(t *testing.T) {
	x := roomy(t, "twice")
	x.fine(x.add(put(1, "a", "x")), x.add(put(1, "a", "x")), x.add(put(1, "b", "y")))
	l := x.commits(3)
	if l[0] != (api.Result{Ver: 1}) || l[1] != l[0] || l[2] != l[0] || len(x.s.Book().L) != 1 {
		t.Errorf("P8.1: Commit of one request, thrice: %+v", l)
	}
}

func TestSixtyThatWait(t *testing.T) {
	x := roomy(t, "60 that wait")
	for n := range int64(60) {
		x.fine(x.add(put(n+1, "k", "")))
	}
	for range 2 {
		was := rolls(x.c)
		for _, d := range mays() {
			if err := x.add(d); err != api.ErrFull {
				t.Errorf("P8.1: the 61st deed: error %d", err)
			}
		}
		if rolls(x.c) != was {
			t.Error("P8.1: the 61st deed is written")
		}
		x.fine(x.pack())
	}
	x.commits(1)
	x.fine(x.add(put(61, "k", "")))
	x.add(put(62, "k", ""))
	x.commits(60)
	for n := range int64(60) {
		if err := x.add(put(n+100, "l", "")); (err == api.OK) != (n < 59) {
			t.Errorf("P8.1: the deed %d behind one: error %d", n, err)
		}
	}
	x.fine(x.learn("60", api.State{Seq: 3}, puts(60)))
	x.add(put(1, "k", ""))
	x.commits(63)
	x.fine(x.add(put(200, "k", "")))
}

func TestTheLastNumber(t *testing.T) {
	for _, n := range []int64{0, 1, 2, 59, 60, 61} {
		x := roomy(t, "the last number")
		x.fine(x.learn("a great Seq", api.State{Seq: top - n}, nil))
		for k := range n + 2 {
			want := api.OK
			if k >= min(n, 60) {
				want = api.ErrFull
			}
			if err := x.add(put(k+1, "k", "")); err != want {
				t.Errorf("P8.1: %d numbers left: Add %d: error %d", n, k, err)
			}
		}
		x.commits(top - n + min(n, 60))
		x.add(put(100, "k", ""))
	}
}

func TestEnter(t *testing.T) {
	x := roomy(t, "Enter")
	x.fine(x.add(put(1, "a", "x")), x.add(put(2, "b", "y")))
	x.commits(1)
	last := int64(0)
	for _, epoch := range []int64{1, 2, 3, 10, 11, base, top, top + 1, math.MaxInt64 - 1, math.MaxInt64} {
		was := rolls(x.c)
		for _, no := range []int64{math.MinInt64, -top, -last, -1, 0, 1, last / 2, last - 1, last} {
			if no > last {
				continue
			}
			if err := x.enter(no); err != api.ErrOld {
				t.Errorf("P8.1: Enter of %d behind %d: error %d", no, last, err)
			}
		}
		if rolls(x.c) != was {
			t.Errorf("P8.1: Enter of what is not above %d writes", last)
		}
		x.fine(x.enter(epoch))
		last = epoch
	}
	x.fine(x.pack())
	x.enter(math.MaxInt64)
	x.fine(x.learn("some", some(), nil))
	x.enter(5)
}

// Shelves are none of one another's.
func TestTwoShelves(t *testing.T) {
	x, y := roomy(t, "one"), roomy(t, "another one")
	x.fine(x.add(put(1, "a", "x")), y.add(put(1, "b", "y")), x.enter(4), y.enter(2), x.learn("some", some(), puts(2)), y.add(put(2, "c", "z")))
	x.commits(71)
	y.commits(1)
	x.fine(y.pack(), x.pack(), y.enter(3), x.enter(5))
	x.holds("at the end")
	y.holds("at the end")
}

// Rolls that are none of the journal's stay as they are.
func TestOtherRolls(t *testing.T) {
	c := roll.New(100000)
	for _, name := range []string{"A", "REQ", "LOGS", "OLD"} {
		if c.Write(name, "some "+name) != api.OK {
			t.Fatal("Write")
		}
	}
	c.Press("REQ")
	x := beginIn(t, "other rolls", c)
	x.fine(x.add(put(1, "a", "x")), x.enter(3))
	x.commits(1)
	x.fine(x.pack(), x.learn("some", some(), puts(2)))
	for _, name := range []string{"A", "REQ", "LOGS", "OLD"} {
		if s, ok := c.Read(name); !ok || s != "some "+name || (c.Pressed(name) > 0) != (name == "REQ") {
			t.Errorf("P8.2: the roll %s is %q, %d pressed", name, s, c.Pressed(name))
		}
	}
}

// refuses asks for ErrDown at each call.
func refuses(t *testing.T, what string, s *shelf.Shelf) {
	t.Helper()
	if !s.Down() {
		t.Errorf("P8.2: %s: not Down", what)
	}
	for range 2 {
		for _, d := range append(mays(), mayNots()...) {
			if err := s.Add(d); err != api.ErrDown {
				t.Fatalf("P8.2: %s: Add of %+v: error %d", what, d, err)
			}
		}
		for _, n := range []int64{math.MinInt64, -1, 0, 1, 2, 3, s.Book().Seq, s.Seq(), s.Seq() + 1, s.Epoch() + 1, math.MaxInt64} {
			if l, err := s.Commit(n); err != api.ErrDown || len(l) != 0 {
				t.Errorf("P8.2: %s: Commit of %d: %v, error %d", what, n, l, err)
			}
			if err := s.Enter(n); err != api.ErrDown {
				t.Errorf("P8.2: %s: Enter of %d: error %d", what, n, err)
			}
		}
		for _, b := range []api.State{{}, {Seq: -1}, some(), s.Book()} {
			for _, l := range [][]api.Deed{nil, s.Pend(), puts(61), {{}}} {
				if err := s.Learn(b, l); err != api.ErrDown {
					t.Errorf("P8.2: %s: Learn: error %d", what, err)
				}
			}
		}
		if err := s.Pack(); err != api.ErrDown {
			t.Errorf("P8.2: %s: Pack: error %d", what, err)
		}
	}
	if !s.Down() {
		t.Errorf("P8.2: %s: no more Down", what)
	}
}

func TestNoShelf(t *testing.T) {
	var none *shelf.Shelf
	for what, s := range map[string]*shelf.Shelf{"nil": none, "a shelf that Open did not make": {}} {
		if b := s.Book(); !book.Eq(b, api.State{}) {
			t.Errorf("P8.2: %s: Book %+v", what, b)
		}
		if s.Pend() != nil || s.Seq() != 0 || s.Epoch() != 0 || s.Learnt() != 0 {
			t.Errorf("P8.2: %s: %s, Seq %d", what, told(s), s.Seq())
		}
		refuses(t, what, s)
	}
	if s, err := shelf.Open(nil); s != nil || err != api.ErrDown {
		t.Errorf("P8.2: Open of no chest: %v, error %d", s, err)
	}
}
