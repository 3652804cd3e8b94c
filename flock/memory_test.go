package flock_test

import (
	"fmt"
	"slices"
	"testing"

	"armarium/api"
	"armarium/flock"
)

// roomy is w with room behind each of its lists, where something stands.
func roomy(w api.Word, room int) api.Word {
	w = clone(w)
	w.Roster.L = behind(w.Roster.L, room, -5)
	w.Deeds = behind(w.Deeds, room, api.Deed{Kind: 2, Key: "behind"})
	for k := range w.State.L {
		w.State.L[k].Vs = behind(w.State.L[k].Vs, room, api.Version{Ver: -5, Body: "behind"})
	}
	w.State.L = behind(w.State.L, room, api.Entry{Key: "behind", Vs: []api.Version{{Ver: 4}, {Ver: 6}}})
	w.State.Memos = behind(w.State.Memos, room, api.Memo{Req: -5})
	return w
}

// behind is l with room, where x stands.
func behind[T any](l []T, room int, x T) []T {
	n := len(l)
	l = slices.Clone(l)
	for range room {
		l = append(l, x)
	}
	return l[:n]
}

// whole is w with all that stands in the room behind its lists, at each depth, in memory of its own.
func whole(w api.Word) api.Word {
	w.Roster.L, w.Deeds = w.Roster.L[:cap(w.Roster.L)], w.Deeds[:cap(w.Deeds)]
	w.State.L, w.State.Memos = slices.Clone(w.State.L[:cap(w.State.L)]), w.State.Memos[:cap(w.State.Memos)]
	for k := range w.State.L {
		w.State.L[k].Vs = w.State.L[k].Vs[:cap(w.State.L[k].Vs)]
	}
	return clone(w)
}

// spoilers each write over one of w's lists, and over the room behind it.
func spoilers(w api.Word) []func() {
	l := []func(){
		func() { fill(w.Roster.L, -77) },
		func() { fill(w.Deeds, api.Deed{Kind: 1, Key: "spoilt", Body: "spoilt", Req: -77}) },
		func() { fill(w.State.Memos, api.Memo{Req: -77, Res: api.Result{Err: -77, Ver: -77}}) },
	}
	for _, e := range w.State.L[:cap(w.State.L)] {
		l = append(l, func() { fill(e.Vs, api.Version{Ver: -77, Gone: true, Body: "spoilt"}) })
	}
	return append(l, func() { fill(w.State.L, api.Entry{Key: "spoilt"}) })
}

func fill[T any](l []T, x T) {
	l = l[:cap(l)]
	for k := range l {
		l[k] = x
	}
}

func spoil(w api.Word) {
	for _, f := range spoilers(w) {
		f()
	}
}

// Say changes nothing of what is handed in, nor of the room behind it, whether it is taken or not.
func TestSayLeavesWhatIsHandedIn(t *testing.T) {
	right, wrong := turns()
	l := append(toldAndLongest(), api.Word{})
	for _, x := range append(right, wrong...) {
		l = append(l, x.word())
	}
	full := of(t, beats(most)...)
	for _, w := range l {
		for _, room := range []int{0, 1, 20} {
			x := roomy(w, room)
			was := whole(x)
			flock.New().Say(x)
			full.Say(x)
			if !same(whole(x), was) || !same(x, w) {
				t.Fatalf("P0.3: Say changes what is handed in, room for %d: %s", room, short(w))
			}
		}
	}
}

// What was said stays as it was said, whatever is written into what was handed in.
func TestSaidStays(t *testing.T) {
	for _, w := range told() {
		for _, room := range []int{0, 1, 20} {
			for k := range spoilers(roomy(w, room)) {
				x := roomy(w, room)
				f := of(t, x, beat(5))
				n := f.Size()
				spoilers(x)[k]()
				what := fmt.Sprint("what was handed in is spoilt, list ", k, ", room for ", room)
				counts(t, what, f, 2, n)
				peeks(t, what, f, 0, w)
				pulls(t, what, f, 0, w)
				peeks(t, what, f, 0, beat(5))
			}
		}
	}
}

// Peek and Pull write nothing into what was handed in to Say.
func TestAnswersLeaveWhatWasHandedIn(t *testing.T) {
	for _, w := range toldAndLongest() {
		x := roomy(w, 5)
		was := whole(x)
		f := of(t, x, x)
		seen, _ := f.Peek(1)
		spoil(seen)
		gone, _ := f.Pull(0)
		spoil(gone)
		if !same(whole(x), was) {
			t.Errorf("P0.3: an answer shares memory with what was handed in: %s", short(w))
		}
		peeks(t, "spoilt answers", f, 0, w)
	}
}

// ask is a Peek or a Pull of one that has w three times, of which one was peeked and one pulled.
func ask(t *testing.T, w api.Word, pull bool) (f *flock.Flock, got, seen, gone api.Word) {
	t.Helper()
	f = of(t, w, w, w)
	seen, _ = f.Peek(0)
	gone, _ = f.Pull(1)
	if pull {
		got, _ = f.Pull(0)
	} else {
		got, _ = f.Peek(0)
	}
	if !same(got, w) || !same(seen, w) || !same(gone, w) {
		t.Fatalf("P12.1: %s, %s and %s are told of %s", short(got), short(seen), short(gone), short(w))
	}
	return f, got, seen, gone
}

// Who writes into an answer changes nothing that the flock has, and no other answer.
func TestAnswersAreApart(t *testing.T) {
	for _, w := range told() {
		for _, pull := range []bool{false, true} {
			_, x, _, _ := ask(t, w, pull)
			for k := range spoilers(x) {
				f, got, seen, gone := ask(t, w, pull)
				n, wasSeen, wasGone := f.Size(), whole(seen), whole(gone)
				spoilers(got)[k]()
				if !same(whole(seen), wasSeen) || !same(whole(gone), wasGone) {
					t.Fatalf("P0.3: two answers share memory, list %d, Pull %t: %s", k, pull, short(w))
				}
				counts(t, "a spoilt answer", f, f.Len(), n)
				for k := range f.Len() {
					peeks(t, "a spoilt answer", f, k, w)
				}
				pulls(t, "a spoilt answer", f, 0, w)
			}
		}
	}
}

// Who writes into one list of an answer, and behind it, changes no other list of it.
func TestListsOfOneAnswerAreApart(t *testing.T) {
	for _, w := range told() {
		f := of(t, w)
		first, _ := f.Peek(0)
		for k := range spoilers(first) {
			got, _ := f.Peek(0)
			was := whole(got)
			spoilers(got)[k]()
			if n := parted(was, whole(got)); n > 1 {
				t.Fatalf("P0.3: %d lists of one answer share memory: %s", n, short(w))
			}
		}
	}
}

// parted is how many lists differ. A list of entries that differs counts alone: what its entries have went with it.
func parted(a, b api.Word) int {
	n := 0
	for _, same := range []bool{slices.Equal(a.Roster.L, b.Roster.L), slices.Equal(a.Deeds, b.Deeds), slices.Equal(a.State.Memos, b.State.Memos)} {
		if !same {
			n++
		}
	}
	keys, lists := 0, 0
	for k, e := range a.State.L {
		if e.Key != b.State.L[k].Key {
			keys++
		} else if !slices.Equal(e.Vs, b.State.L[k].Vs) {
			lists++
		}
	}
	return n + min(keys, 1) + lists
}

// Said, peeked and pulled once more, a word stays as it is, whoever writes into what was handed in or told.
func TestManyAreSpoilt(t *testing.T) {
	f, l := flock.New(), toldAndLongest()
	for _, w := range l {
		x := roomy(w, 3)
		says(t, "spoilt behind", f, x)
		spoil(x)
	}
	holds(t, "all spoilt", f, l)
	for range 2 {
		for k := range l {
			x, _ := f.Peek(k)
			spoil(x)
		}
		holds(t, "all answers spoilt", f, l)
	}
	for len(l) > 0 {
		k := len(l) / 2
		x, _ := f.Pull(k)
		spoil(x)
		l = slices.Delete(l, k, k+1)
		holds(t, "what was pulled is spoilt", f, l)
	}
}
