package link_test

import (
	"fmt"
	"testing"

	"armarium/api"
	"armarium/book"
)

// write is a WWrite of epoch.
func write(from, to int, l ...api.Deed) api.Word {
	return api.Word{Kind: api.WWrite, From: from, To: to, Epoch: epoch, Deeds: l}
}

// done is the WDone of a deed that the node from sends, or keeps.
func done(from int, d api.Deed, r api.Result) api.Word {
	return api.Word{Kind: api.WDone, From: from, To: int(d.Req / base), Epoch: epoch, Req: d.Req, Res: r}
}

// splits are words, those to other nodes, and those to the node id.
func splits(id int, l []api.Word) (others, own []api.Word) {
	for _, w := range l {
		if w.To == id {
			own = append(own, w)
		} else {
			others = append(others, w)
		}
	}
	return others, own
}

// With a next one the head adds a deed, and passes it on, from whomever it comes.
func TestWriteAtTheHead(t *testing.T) {
	for _, p := range places(t)[:7] {
		for _, n := range [][2]int{{0, 0}, {4, 0}, {0, 3}, {4, 9}, {9, 59}} {
			r := p.make(n[0], n[1])
			if r.Roster().L[0] != r.id || len(r.Roster().L) == 1 {
				continue
			}
			for from := range 6 {
				d := others(10)[from]
				if from == r.id || r.Shelf().Seq()-r.Shelf().Book().Seq == 60 {
					continue
				}
				want := r.known().add(d)
				says(t, p.what, r.Step(write(from, r.id, d), until), api.Word{Kind: api.WPass, From: r.id, To: r.Roster().L[1], Epoch: epoch, Seq: want.Seq - 1, Deeds: []api.Deed{d}})
				knows(t, p.what, r, want)
				has(t, p.what, r)
				if f := r.fall(t, 0); f.Shelf().Seq() != want.Seq {
					t.Errorf("P13.1: %s: behind a fall %v", p.what, f.known())
				}
				nothing(t, p.what+": it waits", r, write(from, r.id, d), until)
			}
		}
	}
}

// Alone it commits a deed, and tells who wrote it, whoever said it.
func TestWriteAlone(t *testing.T) {
	l, results := waiting()
	for from := 1; from <= 5; from++ {
		r := placed(made(t, 3, 0, 0), 0, 3)
		for k, d := range l {
			if from == 3 {
				continue
			}
			want := r.known()
			// What was told ahead of it tells of a request that is told: the deed is not done anew.
			if k < 7 {
				want, _ = want.add(d).commit(1)
			}
			other, own := splits(3, []api.Word{done(3, d, results[k])})
			says(t, fmt.Sprint("alone, the deed ", k), r.Step(write(from, 3, d), 1), other...)
			knows(t, fmt.Sprint("alone, the deed ", k), r, want)
			has(t, fmt.Sprint("alone, the deed ", k), r, own...)
		}
	}
}

func TestWriteElsewhere(t *testing.T) {
	for _, p := range places(t) {
		r := p.make(4, 0)
		head := r.Roster().Epoch > 0 && r.Roster().L[0] == r.id
		for from := range 6 {
			for _, l := range [][]api.Deed{nil, {}, others(1), others(2), {nth(20), nth(20)}, others(6), others(60), {nth(2)}, {nth(3), nth(2)}} {
				if from != r.id && (!head || len(l) != 1) {
					nothing(t, fmt.Sprint(p.what, " and ", len(l), " deeds"), r, write(from, r.id, l...), 1)
				}
			}
		}
	}
}

// What is told in the Book is told anew, to the node of the request, whatever the deed is; with the words of now.
func TestWriteOfWhatIsTold(t *testing.T) {
	for _, x := range []struct {
		fresh int
		l     []int
	}{{0, []int{3}}, {0, []int{3, 1}}, {0, []int{3, 1, 4}}, {1, []int{3, 1}}} {
		r := placed(made(t, 3, 30, 0), x.fresh, x.l...)
		// What waits is asked of only where nothing is told.
		if len(x.l) > 1 {
			r.Step(write(5, 3, others(1)...), 1)
		}
		want := r.known()
		for k := 1; k <= 30; k++ {
			for from := range 6 {
				d := nth(k)
				if from > 0 {
					d = put("else", "something else", d.Req)
				}
				told, ok := book.Told(want.Book, d.Req)
				if !ok || from == 3 {
					continue
				}
				other, own := splits(3, []api.Word{done(3, d, told)})
				says(t, fmt.Sprint("told, the deed ", k), r.Step(write(from, 3, d), until), other...)
				has(t, fmt.Sprint("told, the deed ", k), r, own...)
			}
		}
		knows(t, "told", r, want)
	}
}

// A request that waits is not taken again, neither as it is nor otherwise.
func TestWriteOfWhatWaits(t *testing.T) {
	r := placed(made(t, 3, 4, 20), 0, 3, 1, 4)
	for k := 5; k <= 24; k++ {
		nothing(t, fmt.Sprint("it waits: ", k), r, write(4, 3, nth(k)), 1)
		nothing(t, fmt.Sprint("its request waits: ", k), r, write(4, 3, put("else", "", nth(k).Req)), 1)
	}
	// But another request with the same deed is.
	d := nth(6)
	d.Req = req(2, 999)
	if got := r.Step(write(4, 3, d), 1); len(got) != 1 || r.Shelf().Seq() != 25 {
		t.Errorf("P13.1: another request: %s", short(got))
	}
}

// One below its node's Low is done like any other one: it is told that it is old.
func TestWriteOfWhatIsOld(t *testing.T) {
	first := put("a", "", req(4, 9))
	first.Low = req(4, 9)
	old := put("a", "old", req(4, 8))
	r := placed(made(t, 3, 0, 0), 0, 3)
	r.Step(write(4, 3, first), 1)
	want, _ := r.known().add(old).commit(1)
	says(t, "old, alone", r.Step(write(4, 3, old), 1), done(3, old, api.Result{Err: api.ErrOld}))
	knows(t, "old, alone", r, want)
	if want.Book.Seq != 2 {
		t.Error("P13.1: old, alone: it is not done")
	}
	r = placed(made(t, 3, 0, 0), 0, 3, 1)
	r.Step(write(4, 3, first), 1)
	r.Step(api.Word{Kind: api.WAck, From: 1, To: 3, Epoch: epoch, Seq: 1}, 1)
	want = r.known().add(old)
	says(t, "old", r.Step(write(4, 3, old), 1), api.Word{Kind: api.WPass, From: 3, To: 1, Epoch: epoch, Seq: 1, Deeds: []api.Deed{old}})
	knows(t, "old", r, want)
}

func TestWriteToAFullShelf(t *testing.T) {
	r := placed(made(t, 3, 4, 59), 0, 3, 1, 4)
	if got := r.Step(write(5, 3, others(1)...), 1); len(got) != 1 || len(r.Shelf().Pend()) != 60 {
		t.Errorf("P13.1: the 60th: %s", short(got))
	}
	nothing(t, "60 wait", r, write(5, 3, others(2)[1]), 1)
	told, _ := book.Told(r.Shelf().Book(), nth(2).Req)
	_, own := splits(3, []api.Word{done(3, nth(2), told)})
	says(t, "60 wait, one that is told", r.Step(write(5, 3, nth(2)), 1))
	has(t, "60 wait, one that is told", r, own...)
	// Once one is committed there is room for one more.
	r.Step(api.Word{Kind: api.WAck, From: 1, To: 3, Epoch: epoch, Seq: 5}, 1)
	if got := r.Step(write(5, 3, others(2)[1]), 1); len(got) != 1 || r.Shelf().Seq() != 65 {
		t.Errorf("P13.1: behind a commit: %s", short(got))
	}
	// There is no deed behind the 2^40th.
	r = placed(at(t, 3, api.State{Seq: top - 1}, 0), 0, 3, 1)
	if got := r.Step(write(5, 3, nth(1)), 1); len(got) != 1 || r.Shelf().Seq() != top {
		t.Errorf("P13.1: the last deed: %s", short(got))
	}
	nothing(t, "2^40 deeds", r, write(5, 3, nth(2)), 1)
	r = placed(at(t, 3, api.State{Seq: top}, 0), 0, 3)
	nothing(t, "2^40 deeds, alone", r, write(5, 3, nth(2)), 1)
}

// Whatever else is in the word does not count.
func TestWriteByItsDeedAlone(t *testing.T) {
	r := placed(made(t, 3, 4, 2), 0, 3, 1, 4)
	d := nth(9)
	w := write(2, 3, d)
	w.Seq, w.Req, w.Until, w.Res, w.Roster, w.State = 99, req(1, 1), 3, api.Result{Err: 5, Ver: 7}, of(8, 0, 1, 2), r.Shelf().Book()
	says(t, "with all parts", r.Step(w, 1), api.Word{Kind: api.WPass, From: 3, To: 1, Epoch: epoch, Seq: 6, Deeds: []api.Deed{d}})
}
