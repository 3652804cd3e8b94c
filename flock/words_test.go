package flock_test

import (
	"fmt"
	"math"
	"slices"
	"strings"

	"armarium/api"
)

// turn is one thing that is done to some.
type turn struct {
	what string
	set  func(w *api.Word)
}

func (x turn) word() api.Word {
	w := some()
	x.set(&w)
	return w
}

// row is a number, or a text, and what some have there: those that may be, and those that may not.
func row[T any](what string, may, not []T, set func(w *api.Word, x T)) (right, wrong []turn) {
	return turnsOf(what, may, set), turnsOf(what, not, set)
}

func turnsOf[T any](what string, l []T, set func(w *api.Word, x T)) []turn {
	turns := []turn{}
	for _, x := range l {
		turns = append(turns, turn{fmt.Sprintf("%s %.60s", what, fmt.Sprintf("%+v", x)), func(w *api.Word) { set(w, x) }})
	}
	return turns
}

// turns are all of them: behind the first ones a word may be, behind the other ones not, each for one reason alone.
func turns() (right, wrong []turn) {
	for _, part := range []func() ([]turn, []turn){kinds, froms, tos, numbers, errs, rosters, deedLists, putDeeds, otherDeeds, bookLists, entries, memos} {
		may, not := part()
		right, wrong = append(right, may...), append(wrong, not...)
	}
	return right, wrong
}

func kinds() ([]turn, []turn) {
	return row("Kind", []int{1, 2, 3, 4, 5, 6, 8, 9, 10, 11}, []int{math.MinInt, -7, -1, 0, 12, 13, 1<<32 + 7, math.MaxInt}, func(w *api.Word, x int) { w.Kind = x })
}

func froms() ([]turn, []turn) {
	return row("From", []int{0, 1, 3, 5}, []int{math.MinInt, -1, 4, 6, 1<<32 + 2, math.MaxInt}, func(w *api.Word, x int) { w.From = x })
}

func tos() ([]turn, []turn) {
	return row("To", []int{0, 1, 3, 5}, []int{math.MinInt, -1, 2, 6, 1<<32 + 4, math.MaxInt}, func(w *api.Word, x int) { w.To = x })
}

func numbers() (right, wrong []turn) {
	for _, x := range []struct {
		what string
		at   func(w *api.Word) *int64
	}{
		{"Epoch", func(w *api.Word) *int64 { return &w.Epoch }}, {"Seq", func(w *api.Word) *int64 { return &w.Seq }},
		{"Req", func(w *api.Word) *int64 { return &w.Req }}, {"Until", func(w *api.Word) *int64 { return &w.Until }},
		{"Res.Ver", func(w *api.Word) *int64 { return &w.Res.Ver }},
	} {
		may, not := row(x.what, []int64{0, 1, base, top - 1, top}, []int64{math.MinInt64, -1, top + 1, math.MaxInt64}, func(w *api.Word, n int64) { *x.at(w) = n })
		right, wrong = append(right, may...), append(wrong, not...)
	}
	return right, wrong
}

func errs() ([]turn, []turn) {
	return row("Res.Err", []api.Errno{0, 1, 12, 13}, []api.Errno{math.MinInt, -1, 14, 256 + 6, math.MaxInt}, func(w *api.Word, x api.Errno) { w.Res.Err = x })
}

func rosters() ([]turn, []turn) {
	return row("", []api.Roster{
		{}, {Epoch: 1, L: []int{1}}, {Epoch: top, L: []int{5, 4, 3, 2, 1}, New: 1}, {Epoch: 88, L: []int{3, 1, 5}}, {Epoch: 88, L: []int{3, 1}, New: 1},
	}, []api.Roster{
		{Epoch: 88}, {New: 5}, {L: []int{3, 1, 5}, New: 5}, {Epoch: -1, L: []int{3, 1, 5}, New: 5}, {Epoch: top + 1, L: []int{3, 1, 5}, New: 5},
		{Epoch: 88, L: []int{3, 0, 5}, New: 5}, {Epoch: 88, L: []int{3, 6, 5}, New: 5}, {Epoch: 88, L: []int{3, 3, 5}, New: 5}, {Epoch: 88, L: []int{1, 2, 3, 4, 5, 1}},
		{Epoch: 88, L: []int{3, 1, 5}, New: 3}, {Epoch: 88, L: []int{3, 1, 5}, New: 2}, {Epoch: 88, L: []int{5}, New: 5}, {Epoch: 88, L: []int{3, 1, 5}, New: -1},
	}, func(w *api.Word, x api.Roster) { w.Roster = x })
}

func deedLists() (right, wrong []turn) {
	right, wrong = row("deeds:", []int{0, 1, 2, 59, 60}, []int{61, 62, 120, 1000}, func(w *api.Word, n int) { w.Deeds = deeds(n) })
	for _, n := range []int{1, 2, 60} {
		wrong = append(wrong, turnsOf(fmt.Sprint(n, " deeds, one is zero:"), slices.Compact([]int{0, n / 2, n - 1}), func(w *api.Word, k int) {
			w.Deeds = deeds(n)
			w.Deeds[k] = api.Deed{}
		})...)
	}
	return right, wrong
}

func putDeeds() ([]turn, []turn) {
	long, body := strings.Repeat("k", 40), strings.Repeat("\xff", 300)
	return row("a DPut", []api.Deed{
		{Kind: 1, Key: "k", Req: base + 1}, {Kind: 1, Key: long, Body: body, Req: base + 1}, {Kind: 1, Key: ".-_/09az", Req: 6*base - 1, Low: 6*base - 1},
		{Kind: 1, Key: "k", Cond: 1, Req: base + 1}, {Kind: 1, Key: "k", Cond: 2, Tag: "fff0fff0", Req: base + 1}, {Kind: 1, Key: "k", Cond: 2, Tag: "00000000", Req: base + 1},
	}, []api.Deed{
		{Kind: -1, Key: "k", Req: base + 1}, {Key: "k", Req: base + 1}, {Kind: 4, Key: "k", Req: base + 1}, {Kind: 1<<32 + 1, Key: "k", Req: base + 1},
		{Kind: 1, Req: base + 1}, {Kind: 1, Key: long + "k", Req: base + 1}, {Kind: 1, Key: "K", Req: base + 1}, {Kind: 1, Key: "k k", Req: base + 1}, {Kind: 1, Key: "é", Req: base + 1},
		{Kind: 1, Key: "k", Body: body + "x", Req: base + 1}, {Kind: 1, Key: "k", Ver: 1, Req: base + 1},
		{Kind: 1, Key: "k", Cond: -1, Req: base + 1}, {Kind: 1, Key: "k", Cond: 3, Req: base + 1}, {Kind: 1, Key: "k", Cond: 2, Req: base + 1}, {Kind: 1, Key: "k", Cond: 2, Tag: "fff1fff0", Req: base + 1},
		{Kind: 1, Key: "k", Cond: 2, Tag: "FFF0fff0", Req: base + 1}, {Kind: 1, Key: "k", Cond: 1, Tag: "00000001", Req: base + 1}, {Kind: 1, Key: "k", Tag: "00000001", Req: base + 1},
		{Kind: 1, Key: "k"}, {Kind: 1, Key: "k", Req: base}, {Kind: 1, Key: "k", Req: 6 * base}, {Kind: 1, Key: "k", Req: -base}, {Kind: 1, Key: "k", Req: base + 1, Low: base + 2}, {Kind: 1, Key: "k", Req: base + 1, Low: -1},
	}, func(w *api.Word, d api.Deed) { w.Deeds[0] = d })
}

func otherDeeds() ([]turn, []turn) {
	return row("a deed", []api.Deed{
		{Kind: 2, Key: "k", Req: base + 1}, {Kind: 2, Key: "k", Req: base + 1, Low: base + 1}, {Kind: 3, Key: "k", Ver: 1, Req: base + 1}, {Kind: 3, Key: "k", Ver: top, Req: base + 1},
	}, []api.Deed{
		{Kind: 2, Key: "k", Body: "b", Req: base + 1}, {Kind: 2, Key: "k", Ver: 1, Req: base + 1}, {Kind: 2, Key: "k", Cond: 1, Req: base + 1}, {Kind: 2, Key: "k", Tag: "00000001", Req: base + 1}, {Kind: 2, Req: base + 1},
		{Kind: 2, Key: "k", Req: 2 * base}, {Kind: 2, Key: "k", Req: base + 1, Low: base + 2},
		{Kind: 3, Key: "k", Req: base + 1}, {Kind: 3, Key: "k", Ver: -1, Req: base + 1}, {Kind: 3, Key: "k", Ver: top + 1, Req: base + 1}, {Kind: 3, Key: "k", Ver: 1, Body: "b", Req: base + 1},
		{Kind: 3, Key: "k", Ver: 1, Cond: 1, Req: base + 1}, {Kind: 3, Key: "k", Ver: 1, Tag: "00000001", Req: base + 1}, {Kind: 3, Ver: 1, Req: base + 1}, {Kind: 3, Key: "k", Ver: 1},
	}, func(w *api.Word, d api.Deed) { w.Deeds[2] = d })
}

func bookLists() (right, wrong []turn) {
	right, wrong = row("keys:", []int{0, 1, 39, 40}, []int{41, 42, 1000}, func(w *api.Word, n int) {
		w.State.L = nil
		for k := range n {
			w.State.L = append(w.State.L, api.Entry{Key: fmt.Sprintf("k%07d", k), Vs: []api.Version{{Ver: 99}}})
		}
	})
	may, not := row("memos:", []int64{0, 1, 99, 100}, []int64{101, 102, 1000}, func(w *api.Word, n int64) {
		w.State.Memos = nil
		for k := range n {
			w.State.Memos = append(w.State.Memos, api.Memo{Req: 3*base + 8 + k})
		}
	})
	right, wrong = append(right, may...), append(wrong, not...)
	may, not = row("a book's Seq:", []int64{98, top}, []int64{math.MinInt64, -1, 0, 97, top + 1, math.MaxInt64}, func(w *api.Word, n int64) { w.State.Seq = n })
	right, wrong = append(right, may...), append(wrong, not...)
	may, not = row("Lows", [][5]int64{{}, {base + 4, 2*base + 1, 3*base + 1, 4*base + 7, 6*base - 1}}, [][5]int64{{base + 5}, {1}, {2*base + 1}, {-base}, {0, 0, 0, 4*base + 8}, {0, 0, 0, 0, 6 * base}}, func(w *api.Word, l [5]int64) { w.State.Lows = l })
	return append(right, may...), append(wrong, not...)
}

func entries() (right, wrong []turn) {
	body := strings.Repeat("x", 300)
	versions := func(n int) []api.Version {
		l := []api.Version{}
		for k := range n {
			l = append(l, api.Version{Ver: int64(k + 1)})
		}
		return l
	}
	right, wrong = row("versions", [][]api.Version{{{Ver: 1}}, {{Ver: 99, Body: body}}, {{Ver: 99, Gone: true}}, versions(11), versions(12)}, [][]api.Version{
		{}, {{}}, {{Ver: -1}}, {{Ver: 100}}, {{Ver: 5}, {Ver: 5}}, {{Ver: 5}, {Ver: 4}}, {{Ver: 9, Body: body + "x"}}, {{Ver: 9, Gone: true, Body: "x"}}, versions(13), versions(14),
	}, func(w *api.Word, l []api.Version) { w.State.L[1].Vs = l })
	may, not := row("the second key", []string{"aa", strings.Repeat("z", 40)}, []string{"", "A", "a", "0", strings.Repeat("z", 41), "z z"}, func(w *api.Word, key string) { w.State.L[1].Key = key })
	return append(right, may...), append(wrong, not...)
}

func memos() ([]turn, []turn) {
	return row("the second memo", []api.Memo{{Req: base + 5}, {Req: 4*base + 6, Res: api.Result{Err: 13, Ver: 99}}}, []api.Memo{
		{}, {Req: base + 4}, {Req: base + 3}, {Req: 4*base + 7}, {Req: 2 * base}, {Req: 3*base + 7}, {Req: base + 9, Res: api.Result{Err: -1}}, {Req: base + 9, Res: api.Result{Err: 14}},
		{Req: base + 9, Res: api.Result{Ver: -1}}, {Req: base + 9, Res: api.Result{Ver: 100}},
	}, func(w *api.Word, m api.Memo) { w.State.Memos[1] = m })
}

// bounds are words of the kind: of each to each, with nothing else; with all parts at their lower bounds, or at their
// upper ones; and with each part alone at the other one.
func bounds(kind int) []api.Word {
	l := []api.Word{}
	for from := range 6 {
		for to := range 6 {
			if from != to {
				l = append(l, api.Word{Kind: kind, From: from, To: to})
			}
		}
	}
	low, high := api.Word{Kind: kind, From: 5}, longest()
	high.Kind = kind
	l = append(l, high)
	for _, part := range []func(w *api.Word, from api.Word){
		func(w *api.Word, from api.Word) { w.Epoch = from.Epoch }, func(w *api.Word, from api.Word) { w.Seq = from.Seq },
		func(w *api.Word, from api.Word) { w.Req = from.Req }, func(w *api.Word, from api.Word) { w.Until = from.Until },
		func(w *api.Word, from api.Word) { w.Res.Err = from.Res.Err }, func(w *api.Word, from api.Word) { w.Res.Ver = from.Res.Ver },
		func(w *api.Word, from api.Word) { w.Roster = from.Roster }, func(w *api.Word, from api.Word) { w.Deeds = from.Deeds },
		func(w *api.Word, from api.Word) { w.State = from.State },
	} {
		a, b := low, high
		part(&a, high)
		part(&b, low)
		l = append(l, a, b)
	}
	return l
}
