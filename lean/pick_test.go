package lean_test

import (
	"math"
	"slices"
	"testing"

	"armarium/api"
	"armarium/lean"
	"armarium/roster"
)

// picks asks that of r the right one is picked for each of l.
func picks(t *testing.T, r api.Roster, l []weighed) {
	t.Helper()
	for _, x := range l {
		if got, want := lean.Pick(r, x.key), wanted(r, x); got != want {
			t.Errorf("P14.1: Pick(%v, %.40q): %d, not %d; weights %v", r, x.key, got, want, x.of[1:])
		}
	}
}

func TestPickInEachOrder(t *testing.T) {
	l := weigh(few())
	for _, o := range allOrders() {
		picks(t, of(0, o...), l)
	}
}

// TestPickButNew has New at each place of the list; beside one other, and alone, too.
func TestPickButNew(t *testing.T) {
	l := weigh(few())
	for _, o := range allOrders() {
		for _, fresh := range o {
			r := of(fresh, o...)
			picks(t, r, l)
			for _, x := range l {
				if n := lean.Pick(r, x.key); n == fresh || (n == 0) != (len(o) == 1) {
					t.Errorf("P14.1: Pick(%v, %.40q): %d", r, x.key, n)
				}
			}
		}
	}
}

// TestPickWithNewElsewhere has a New that leaves nobody out.
func TestPickWithNewElsewhere(t *testing.T) {
	l := weigh(few())
	for _, o := range slices.Concat(orders(1), orders(2), orders(4)) {
		for _, fresh := range slices.Concat(strangers(), []int{1, 2, 3, 4, 5}) {
			if slices.Contains(o, fresh) {
				continue
			}
			for _, x := range l {
				if got, want := lean.Pick(of(fresh, o...), x.key), wanted(of(0, o...), x); got != want {
					t.Errorf("P14.1: Pick(%v, %.40q), New is none of them: %d, not %d", of(fresh, o...), x.key, got, want)
				}
			}
		}
	}
}

func TestPickOfNobody(t *testing.T) {
	for _, key := range few() {
		for _, r := range []api.Roster{{}, {Epoch: 3}, {New: 4}, {L: []int{}}, {L: []int{1, 2}[:0]}, of(4, 4), of(1, 1), of(5, 5)} {
			if n := lean.Pick(r, key); n != 0 {
				t.Errorf("P14.1: Pick(%v, %.40q): %d, not 0", r, key, n)
			}
		}
	}
}

// TestPickOfOneWeight has keys for which two nodes weigh the same, more than all others.
func TestPickOfOneWeight(t *testing.T) {
	for _, x := range pairs() {
		w := weigh([]string{x.key})[0]
		if w.of[x.a] != w.of[x.b] || w.of[x.a] != slices.Max(w.of[:]) {
			t.Errorf("%s is no key for which %d and %d weigh the same", x.key, x.a, x.b)
		}
		for _, o := range allOrders() {
			for _, fresh := range []int{0, x.a, x.b} {
				r := of(fresh, o...)
				l := asked(r)
				n := lean.Pick(r, x.key)
				switch {
				case slices.Contains(l, x.a) && n != x.a, !slices.Contains(l, x.a) && slices.Contains(l, x.b) && n != x.b:
					t.Errorf("P14.1: Pick(%v, %q): %d, where %d and %d weigh the same", r, x.key, n, x.a, x.b)
				}
			}
		}
	}
}

// TestPickWhereAllWeighNothing has a key for which the least number is picked.
func TestPickWhereAllWeighNothing(t *testing.T) {
	for _, o := range allOrders() {
		for fresh := range 6 {
			r := of(fresh, o...)
			want := 0
			if l := asked(r); len(l) > 0 {
				want = slices.Min(l)
			}
			if n := lean.Pick(r, level); n != want {
				t.Errorf("P14.1: Pick(%v, %q): %d, not %d", r, level, n, want)
			}
		}
	}
}

func TestPickWhateverTheOrder(t *testing.T) {
	for _, key := range many() {
		for _, fresh := range []int{0, 2, 5} {
			want := lean.Pick(of(fresh, 1, 2, 3, 4, 5), key)
			for _, o := range orders(5) {
				if n := lean.Pick(of(fresh, o...), key); n != want {
					t.Errorf("P14.1: Pick(%v, %.40q): %d, but %d in another order", of(fresh, o...), key, n, want)
				}
			}
		}
	}
}

func TestPickWhateverTheEpoch(t *testing.T) {
	for _, x := range weigh(few()) {
		for _, epoch := range []int64{0, 1, -1, 1 << 40, 1<<40 + 1, math.MinInt64, math.MaxInt64} {
			r := of(3, 5, 2, 4, 3)
			r.Epoch = epoch
			if got, want := lean.Pick(r, x.key), wanted(r, x); got != want {
				t.Errorf("P14.1: Pick(%v, %.40q): %d, not %d", r, x.key, got, want)
			}
		}
	}
}

// TestWithoutOne drops each node of each chain, and lets it come back: as New at first.
func TestWithoutOne(t *testing.T) {
	keys := many()[:200]
	for _, o := range slices.Concat(orders(2), orders(3), orders(4), orders(5)) {
		r := of(0, o...)
		for _, n := range o {
			without, ok := roster.Drop(r, n)
			fresh, also := roster.Add(without, n)
			if !ok || !also {
				t.Fatalf("no roster without, and with, %d of %v", n, r)
			}
			full := fresh
			full.New = 0
			for _, key := range keys {
				was, now := lean.Pick(r, key), lean.Pick(without, key)
				if now == 0 || now == n || was != n && now != was {
					t.Errorf("P14.1: %.40q goes from %d to %d without %d of %v", key, was, now, n, r)
				}
				if x := lean.Pick(fresh, key); x != now {
					t.Errorf("P14.1: %.40q goes from %d to %d while %d of %v is New", key, now, x, n, fresh)
				}
				if x := lean.Pick(full, key); x != was {
					t.Errorf("P14.1: %.40q goes to %d, not back to %d, with %d of %v again", key, x, was, n, full)
				}
			}
		}
	}
}

// TestAllArePicked asks that each node of five has keys.
func TestAllArePicked(t *testing.T) {
	counts := map[int]int{}
	for _, key := range many() {
		counts[lean.Pick(of(0, 1, 2, 3, 4, 5), key)]++
	}
	for n := 1; n <= 5; n++ {
		if counts[n] < 50 {
			t.Errorf("P14.1: %d has %d of %d keys", n, counts[n], len(many()))
		}
	}
}
