package flock_test

import (
	"fmt"
	"math"
	"reflect"
	"slices"
	"strings"
	"testing"

	"armarium/api"
	"armarium/flock"
	"armarium/word"
)

const (
	base = int64(1) << 32
	top  = int64(1) << 40
	most = 300 // words on their way
)

// beat is the n-th of short words: no two are the same.
func beat(n int) api.Word { return api.Word{Kind: 1, From: 1 + n%5, Epoch: int64(n)} }

func beats(n int) []api.Word {
	l := []api.Word{}
	for k := range n {
		l = append(l, beat(k))
	}
	return l
}

// some is a word with something in each part, and nothing at its bounds.
func some() api.Word {
	return api.Word{
		Kind: 7, From: 2, To: 4, Epoch: 11, Seq: 22, Req: 33, Until: 44, Res: api.Result{Err: 6, Ver: 77},
		Roster: api.Roster{Epoch: 88, L: []int{3, 1, 5}, New: 5},
		Deeds: []api.Deed{
			{Kind: 1, Key: "a/b", Body: "one", Cond: 2, Tag: "0000abcd", Req: base + 5, Low: base + 3},
			{Kind: 2, Key: "c", Req: 2*base + 7, Low: 9},
			{Kind: 3, Key: "a/b", Ver: 12, Req: 5*base + 1, Low: 1},
		},
		State: api.State{
			Seq: 99,
			L: []api.Entry{
				{Key: "a", Vs: []api.Version{{Ver: 3, Body: "one"}, {Ver: 5, Gone: true}}},
				{Key: "b/c", Vs: []api.Version{{Ver: 8, Body: ",]#:\x00\xffé€"}, {Ver: 10}, {Ver: 98, Body: "y"}}},
			},
			Memos: []api.Memo{{Req: base + 4, Res: api.Result{Ver: 3}}, {Req: base + 9, Res: api.Result{Err: 9}}, {Req: 4*base + 7, Res: api.Result{Err: 12, Ver: 98}}},
			Lows:  [5]int64{base + 4, 0, 3*base + 8, 0, 0},
		},
	}
}

// longest is the longest word that there is.
func longest() api.Word {
	w := api.Word{
		Kind: 11, From: 5, To: 4, Epoch: top, Seq: top, Req: top, Until: top, Res: api.Result{Err: 13, Ver: top},
		Roster: api.Roster{Epoch: top, L: []int{1, 2, 3, 4, 5}, New: 5}, Deeds: deeds(60),
	}
	w.State.Seq = top
	for k := range 40 {
		e := api.Entry{Key: strings.Repeat("z", 38) + fmt.Sprintf("%02d", k)}
		for v := range int64(12) {
			e.Vs = append(e.Vs, api.Version{Ver: top - 11 + v, Body: strings.Repeat(string([]byte{byte(200 + k)}), 300)})
		}
		w.State.L = append(w.State.L, e)
	}
	for k := range int64(100) {
		w.State.Memos = append(w.State.Memos, api.Memo{Req: (k/20+2)*base - 20 + k%20, Res: api.Result{Err: 13, Ver: top}})
	}
	for k := range w.State.Lows {
		w.State.Lows[k] = int64(k+2)*base - 20
	}
	return w
}

// deeds are n long ones.
func deeds(n int) []api.Deed {
	l := []api.Deed{}
	for k := range n {
		req := 6*base - 1000 + int64(k)
		l = append(l, api.Deed{Kind: 1, Key: strings.Repeat("k", 40), Body: strings.Repeat(string([]byte{byte(k)}), 300), Cond: 2, Tag: "fff0fff0", Req: req, Low: req})
	}
	return l
}

// told are words as the chief and the nodes say them, and such as have all parts.
func told() []api.Word {
	return []api.Word{
		{Kind: 1, From: 3, Epoch: 4},
		{Kind: 2, To: 5, Roster: api.Roster{Epoch: 4, L: []int{1, 2, 5}, New: 5}, Until: 17},
		{Kind: 3, From: 2, To: 1, Epoch: 4, Deeds: some().Deeds[:1]},
		{Kind: 4, From: 1, To: 2, Epoch: 4, Seq: 9, Deeds: deeds(6)},
		{Kind: 5, From: 2, To: 1, Epoch: 4, Seq: 9, Req: 1},
		{Kind: 6, From: 2, To: 1, Epoch: 4, Seq: 15},
		{Kind: 7, From: 5, To: 1, Epoch: 4, Req: base + 3, Res: api.Result{Err: 9}},
		{Kind: 8, From: 1, To: 5, Epoch: 4, Req: base + 4},
		{Kind: 9, From: 5, To: 1, Epoch: 4, Req: base + 4, Seq: 15},
		{Kind: 10, From: 2, To: 5, Epoch: 4, State: some().State, Seq: 101, Deeds: some().Deeds},
		{Kind: 11, From: 5, Epoch: 4},
		some(),
	}
}

func toldAndLongest() []api.Word { return append(told(), longest()) }

// clone is w in memory of its own.
func clone(w api.Word) api.Word {
	w.Roster.L, w.Deeds = slices.Clone(w.Roster.L), slices.Clone(w.Deeds)
	w.State.L, w.State.Memos = slices.Clone(w.State.L), slices.Clone(w.State.Memos)
	for k := range w.State.L {
		w.State.L[k].Vs = slices.Clone(w.State.L[k].Vs)
	}
	return w
}

// plain is w with nil in the place of each empty list.
func plain(w api.Word) api.Word {
	w = clone(w)
	w.Roster.L, w.Deeds = plainList(w.Roster.L), plainList(w.Deeds)
	w.State.L, w.State.Memos = plainList(w.State.L), plainList(w.State.Memos)
	for k := range w.State.L {
		w.State.L[k].Vs = plainList(w.State.L[k].Vs)
	}
	return w
}

func plainList[T any](l []T) []T {
	if len(l) == 0 {
		return nil
	}
	return l
}

func same(a, b api.Word) bool { return reflect.DeepEqual(plain(a), plain(b)) }

// short is what a failure tells of a word.
func short(w api.Word) string { return fmt.Sprintf("%+.500q", fmt.Sprintf("%+v", w)) }

// size is how many bytes the words' texts have.
func size(l []api.Word) int {
	n := 0
	for _, w := range l {
		n += len(word.Put(w))
	}
	return n
}

// outside are places where nothing is, of n.
func outside(n int) []int {
	return []int{-1, -2, n, n + 1, -n - 1, most, most + 1, 1 << 32, -1 << 32, math.MaxInt, math.MaxInt - 1, math.MinInt, math.MinInt + 1}
}

// counts asks how many words and bytes are on their way.
func counts(t *testing.T, what string, f *flock.Flock, words, bytes int) {
	t.Helper()
	if f.Len() != words || f.Size() != bytes {
		t.Fatalf("P12.1: %s: Len %d, Size %d, not %d, %d", what, f.Len(), f.Size(), words, bytes)
	}
}

// holds asks that just these are on their way, in this order.
func holds(t *testing.T, what string, f *flock.Flock, l []api.Word) {
	t.Helper()
	bytes := size(l)
	counts(t, what, f, len(l), bytes)
	for k, w := range l {
		peeks(t, what, f, k, w)
	}
	for _, k := range outside(len(l)) {
		if w, ok := f.Peek(k); ok || !same(w, api.Word{}) {
			t.Fatalf("P12.1: %s: Peek(%d) of %d: %t, %s", what, k, len(l), ok, short(w))
		}
	}
	counts(t, what+", behind Peeks", f, len(l), bytes)
}

// peeks asks that w is at the place k.
func peeks(t *testing.T, what string, f *flock.Flock, k int, w api.Word) {
	t.Helper()
	if got, ok := f.Peek(k); !ok || !same(got, w) {
		t.Fatalf("P12.1: %s: Peek(%d): %t, %s, not %s", what, k, ok, short(got), short(w))
	}
}

// pulls asks that w goes from the place k.
func pulls(t *testing.T, what string, f *flock.Flock, k int, w api.Word) {
	t.Helper()
	if got, ok := f.Pull(k); !ok || !same(got, w) {
		t.Fatalf("P12.1: %s: Pull(%d): %t, %s, not %s", what, k, ok, short(got), short(w))
	}
}

// says asks that each of them is taken.
func says(t *testing.T, what string, f *flock.Flock, l ...api.Word) {
	t.Helper()
	for k, w := range l {
		if !f.Say(w) {
			t.Fatalf("P12.1: %s: Say of the word %d: false: %s", what, k, short(w))
		}
	}
}

// refuses asks that w is not taken.
func refuses(t *testing.T, what string, f *flock.Flock, w api.Word) {
	t.Helper()
	if f.Say(w) {
		t.Fatalf("P12.1: %s: Say: true: %s", what, short(w))
	}
}

// of is a flock with these on their way.
func of(t *testing.T, l ...api.Word) *flock.Flock {
	t.Helper()
	f := flock.New()
	says(t, "a new one", f, l...)
	return f
}
