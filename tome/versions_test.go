package tome

import (
	"fmt"
	"math"
	"slices"
	"testing"

	"armarium/api"
)

// first is a second reckoning of where a version stands: the numbers of all, looked at from the end.
func first(e api.Entry, ver int64) int {
	at := -1
	for k, v := range slices.Backward(e.Vs) {
		if v.Ver == ver {
			at = k
		}
	}
	return at
}

// less is a second reckoning of what a purge leaves: all versions but the one at the place k.
func less(e api.Entry, k int) api.Entry {
	x := api.Entry{Key: e.Key}
	for n, v := range e.Vs {
		if n != k {
			x.Vs = append(x.Vs, v)
		}
	}
	return x
}

// atAndPurge looks at both for a number whose first version stands at the place k, below 0: nowhere.
func atAndPurge(t *testing.T, e api.Entry, ver int64, k int) {
	t.Helper()
	want, left := api.Version{}, e
	if k >= 0 {
		want, left = e.Vs[k], less(e, k)
	}
	if v, ok := At(e, ver); v != want || ok != (k >= 0) {
		t.Errorf("P6.1: At %d of %.200q: %.40q, %t", ver, fmt.Sprint(e), fmt.Sprint(v), ok)
	}
	if x, ok := Purge(e, ver); !same(x, left) || ok != (k >= 0) {
		t.Errorf("P6.1: Purge %d of %.200q: %.200q, %t", ver, fmt.Sprint(e), fmt.Sprint(x), ok)
	}
}

// nowhere are numbers that no version of hundreds has.
var nowhere = []int64{math.MinInt64, math.MinInt64 + 1, -top, -100, -1, 0, 1, 99, 1<<32 + 100, top, top + 1, math.MaxInt64 - 1, math.MaxInt64}

func TestAtAndPurge(t *testing.T) {
	for _, n := range []int{0, 1, 2, 3, 11, 12, 13, 300} {
		e := hundreds(n)
		for k := range n {
			ver := int64(100*k + 100)
			atAndPurge(t, e, ver, k)
			for _, near := range []int64{ver - 1, ver + 1, ver + 50, -ver, ver + 1<<32, ver + 1<<40} {
				atAndPurge(t, e, near, -1)
			}
		}
		for _, ver := range append(nowhere, int64(100*n+100)) {
			atAndPurge(t, e, ver, -1)
		}
	}
	for _, ver := range append(nowhere, 100) {
		atAndPurge(t, api.Entry{}, ver, -1)
		atAndPurge(t, api.Entry{Key: "k", Vs: hundreds(3).Vs[:0]}, ver, -1)
	}
}

func TestAtAndPurgeAtEdges(t *testing.T) {
	e := entry(there(1, "one"), there(2, xs(300)), gone(3), there(top-1, ""), there(top, "top"))
	for k, v := range e.Vs {
		atAndPurge(t, e, v.Ver, k)
	}
	for _, ver := range []int64{math.MinInt64, -top, -1, 0, 4, top - 2, top + 1, math.MaxInt64} {
		atAndPurge(t, e, ver, -1)
	}
}

func TestPurgeUntilNoneIsLeft(t *testing.T) {
	for _, order := range [][]int64{{100, 200, 300}, {300, 200, 100}, {200, 100, 300}} {
		e := hundreds(3)
		for k, ver := range order {
			x, ok := Purge(e, ver)
			if !ok || len(x.Vs) != 2-k || x.Key != "a/key" {
				t.Errorf("P6.1: Purge %d: %+v, %t", ver, x, ok)
			}
			atAndPurge(t, x, ver, -1)
			e = x
		}
	}
}

func TestAtAndPurgeOfWhatMayNotBe(t *testing.T) {
	twice := entry(there(1, "a"), there(4, "b"), there(4, "c"), gone(4), there(6, "d"))
	atAndPurge(t, twice, 4, 1)
	atAndPurge(t, twice, 6, 4)
	atAndPurge(t, twice, 5, -1)
	x, _ := Purge(twice, 4)
	atAndPurge(t, x, 4, 1)
	if v, _ := At(x, 4); v != there(4, "c") {
		t.Errorf("P6.1: At 4, behind a Purge of it: %v", v)
	}
	falling := entry(there(9, "a"), there(5, "b"), there(7, "c"), there(2, "d"), there(9, "e"), there(5, "f"), there(1, "g"))
	for ver, k := range map[int64]int{9: 0, 5: 1, 7: 2, 2: 3, 1: 6, 0: -1, 3: -1, 4: -1, 6: -1, 8: -1, 10: -1, -9: -1} {
		atAndPurge(t, falling, ver, k)
	}
	beyond := entry(there(math.MaxInt64, "a"), there(0, xs(301)), there(math.MinInt64, "b"), api.Version{Ver: -1, Gone: true, Body: "c"}, there(top+1, "d"), there(0, "e"))
	for k, v := range beyond.Vs[:5] {
		atAndPurge(t, beyond, v.Ver, k)
	}
	atAndPurge(t, api.Entry{Key: "No key", Vs: []api.Version{there(3, "x")}}, 3, 0)
	atAndPurge(t, api.Entry{Vs: []api.Version{{}}}, 0, 0)
	atAndPurge(t, api.Entry{Vs: []api.Version{{}}}, 1, -1)
}

func TestAtAndPurgeOfAllSmallEntries(t *testing.T) {
	var look func(e api.Entry)
	look = func(e api.Entry) {
		for ver := int64(-1); ver <= 4; ver++ {
			atAndPurge(t, e, ver, first(e, ver))
		}
		for ver := int64(0); ver <= 3 && len(e.Vs) < 5; ver++ {
			v := api.Version{Ver: ver, Gone: len(e.Vs)%2 == 1, Body: fmt.Sprint(len(e.Vs))}
			look(entry(append(slices.Clip(e.Vs), v)...))
		}
	}
	look(entry())
}

// adds looks at an Add of v to e, whether it is taken or not.
func adds(t *testing.T, e api.Entry, v api.Version, taken bool) {
	t.Helper()
	want := e
	if taken {
		want = api.Entry{Key: e.Key, Vs: append(slices.Clip(e.Vs), v)}
	}
	if x, ok := Add(e, v); !same(x, want) || ok != taken {
		t.Errorf("P6.1: Add of %.40q to %.200q: %.200q, %t", fmt.Sprint(v), fmt.Sprint(e), fmt.Sprint(x), ok)
	}
}

func TestAdd(t *testing.T) {
	for _, n := range []int{1, 2, 3, 10, 11, 12, 13, 14, 256, 268, 1000} {
		last := int64(100 * n)
		for ver, above := range map[int64]bool{
			math.MinInt64: false, -top: false, -last - 1: false, -1: false, 0: false, 1: false, last - 100: false, last - 99: false, last - 1: false, last: false,
			last + 1: true, last + 2: true, last + 100: true, 1 << 32: true, top: true,
		} {
			for _, v := range []api.Version{there(ver, ""), there(ver, "a body"), there(ver, xs(300)), gone(ver)} {
				adds(t, hundreds(n), v, above && n < 12)
				if x, _ := Add(hundreds(n), v); May(x) != (n <= 12) {
					t.Errorf("P6.1: May behind an Add of %d to %d versions", ver, n)
				}
			}
		}
	}
}

func TestAddToNone(t *testing.T) {
	for _, e := range []api.Entry{{}, entry(), {Key: "k", Vs: []api.Version{}}, {Key: "k", Vs: hundreds(3).Vs[:0]}} {
		for _, ver := range []int64{1, 2, 100, top} {
			adds(t, e, there(ver, "x"), true)
			adds(t, e, gone(ver), true)
		}
	}
}

func TestAddOneByOne(t *testing.T) {
	e := entry()
	for k := range int64(12) {
		v := there(3*k+1, fmt.Sprint("body ", k))
		adds(t, e, v, true)
		e, _ = Add(e, v)
		if now, is := Now(e); now != v || !is || !May(e) || len(e.Vs) != int(k)+1 {
			t.Fatalf("P6.1: Now behind %d Adds: %v", k+1, now)
		}
		adds(t, e, v, false)
		adds(t, e, there(3*k, ""), false)
	}
	adds(t, e, there(100, ""), false)
	e, _ = Purge(e, 1)
	adds(t, e, there(33, ""), false)
	adds(t, e, there(34, ""), false)
	adds(t, e, there(35, ""), true)
}

// What May says of v or of e is not asked: the chapter names the number of the last version and the twelve alone.
func TestAddOfWhatMayNotBe(t *testing.T) {
	for _, ver := range []int64{math.MinInt64, -1, 0, top + 1, math.MaxInt64} {
		adds(t, entry(), there(ver, "x"), true)
		adds(t, entry(there(top, "x")), there(ver, "y"), ver > top)
	}
	adds(t, entry(there(5, "x")), there(6, xs(301)), true)
	adds(t, entry(there(5, "x")), api.Version{Ver: 6, Gone: true, Body: "y"}, true)
	adds(t, entry(there(5, "x")), api.Version{}, false)
	adds(t, entry(), api.Version{}, true)
	adds(t, api.Entry{Key: "No key", Vs: []api.Version{there(5, "x")}}, there(6, "y"), true)
	falling := entry(there(9, "a"), there(4, "b"))
	for ver, taken := range map[int64]bool{3: false, 4: false, 5: true, 9: true, 10: true} {
		adds(t, falling, there(ver, "c"), taken)
	}
	adds(t, entry(there(math.MaxInt64, "x")), there(math.MaxInt64, "y"), false)
	adds(t, entry(there(math.MaxInt64, "x")), there(math.MinInt64, "y"), false)
	adds(t, entry(there(math.MinInt64, "x")), there(math.MinInt64, "y"), false)
	adds(t, entry(there(math.MinInt64, "x")), there(math.MinInt64+1, "y"), true)
	adds(t, entry(there(math.MinInt64, "x")), there(math.MaxInt64, "y"), true)
	thirteen := hundreds(13)
	thirteen.Vs[12] = there(-5, "")
	adds(t, thirteen, there(1, ""), false)
}

// call is one that answers an entry.
type call struct {
	what string
	make func(e api.Entry) (api.Entry, bool)
}

// calls are Adds and Purges of what there is in hundreds(n) and of what there isn't.
func calls(n int) []call {
	l := []call{}
	for _, ver := range []int64{-1, 0, 50, int64(100 * n), int64(100*n + 1), int64(100*n + 7)} {
		l = append(l, call{fmt.Sprint("Add ", ver), func(e api.Entry) (api.Entry, bool) { return Add(e, there(ver, "added")) }})
	}
	for k := range n + 2 {
		l = append(l, call{fmt.Sprint("Purge ", 100*k), func(e api.Entry) (api.Entry, bool) { return Purge(e, int64(100*k)) }})
	}
	return l
}

// roomy is hundreds(n) with room for some more behind it, where something stands, and all of that memory.
func roomy(n, room int) (api.Entry, []api.Version) {
	all := hundreds(n).Vs
	for k := range room {
		all = append(all, there(int64(k), "behind"))
	}
	return entry(all[:n]...), all
}

// spoil writes over all of an entry's versions, and over the room behind them.
func spoil(e api.Entry) {
	l := e.Vs[:cap(e.Vs)]
	for k := range l {
		l[k] = there(-77, "spoilt")
	}
}

func TestWhatIsHandedInStays(t *testing.T) {
	for _, n := range []int{0, 1, 2, 3, 11, 12, 13, 40} {
		for _, room := range []int{0, 1, 2, 9} {
			for _, f := range calls(n) {
				e, all := roomy(n, room)
				was := slices.Clone(all)
				x, _ := f.make(e)
				if !slices.Equal(all, was) || !same(e, hundreds(n)) {
					t.Errorf("P6.1: %s changes an entry of %d, room for %d", f.what, n, room)
				}
				spoil(x)
				if !slices.Equal(all, was) {
					t.Errorf("P6.1: what %s of %d answers shares memory, room for %d", f.what, n, room)
				}
			}
		}
	}
}

func TestTwoAnswersOfOneEntry(t *testing.T) {
	for _, n := range []int{0, 1, 2, 3, 11, 12, 13} {
		for _, room := range []int{0, 1, 9} {
			e, _ := roomy(n, room)
			for _, f := range calls(n) {
				for _, g := range calls(n) {
					apart(t, e, f, g)
				}
			}
		}
	}
}

// apart looks whether what f answers stays as it is while g answers, and when that is written over.
func apart(t *testing.T, e api.Entry, f, g call) {
	t.Helper()
	x, ok := f.make(e)
	was := slices.Clone(x.Vs[:cap(x.Vs)])
	y, _ := g.make(e)
	z, _ := g.make(x)
	spoil(y)
	spoil(z)
	if !slices.Equal(x.Vs[:cap(x.Vs)], was) {
		t.Errorf("P6.1: %s of %d, and %s: they share memory", f.what, len(e.Vs), g.what)
	}
	spoil(x)
	if again, is := f.make(e); is != ok || !slices.Equal(again.Vs, was[:len(again.Vs)]) || len(again.Vs) != len(x.Vs) {
		t.Errorf("P6.1: %s of %d answers something else behind %s: %v", f.what, len(e.Vs), g.what, again)
	}
}

func TestOthersLeaveTheEntry(t *testing.T) {
	for _, n := range []int{0, 1, 2, 12, 13} {
		e, all := roomy(n, 3)
		was := slices.Clone(all)
		May(e)
		Now(e)
		for ver := range int64(100*n + 2) {
			At(e, ver)
		}
		for cond := range 5 {
			Holds(e, cond-1, digits("body 1"))
		}
		if !slices.Equal(all, was) {
			t.Errorf("P6.1: an entry of %d versions does not stay as it was", n)
		}
	}
}
