package lean_test

import (
	"slices"
	"strings"
	"testing"

	"armarium/api"
	"armarium/lean"
)

// shares are what Share is to answer.
func shares(r api.Roster, l []weighed) []int {
	counts := make([]int, len(r.L))
	for _, x := range l {
		n := wanted(r, x)
		for k := range r.L {
			if n != 0 && r.L[k] == n {
				counts[k]++
			}
		}
	}
	return counts
}

// shared asks that keys are shared rightly among r.
func shared(t *testing.T, r api.Roster, keys []string) {
	t.Helper()
	if got, want := lean.Share(r, keys), shares(r, weigh(keys)); !slices.Equal(got, want) {
		t.Errorf("P14.1: Share(%v) of %d keys: %v, not %v", r, len(keys), got, want)
	}
}

func sum(l []int) int {
	all := 0
	for _, n := range l {
		all += n
	}
	return all
}

func TestShareInEachOrder(t *testing.T) {
	keys := few()
	for _, o := range allOrders() {
		for _, fresh := range slices.Concat([]int{0}, o) {
			r := of(fresh, o...)
			shared(t, r, keys)
			l := lean.Share(r, keys)
			want := len(keys)
			if len(asked(r)) == 0 {
				want = 0
			}
			if len(l) != len(o) || sum(l) != want {
				t.Errorf("P14.1: Share(%v) of %d keys: %v", r, len(keys), l)
			}
			if k := slices.Index(o, fresh); k >= 0 && l[k] != 0 {
				t.Errorf("P14.1: Share(%v): %v, where New has some", r, l)
			}
		}
	}
}

// TestShareIsWhatIsPicked holds Share against Pick.
func TestShareIsWhatIsPicked(t *testing.T) {
	keys := many()
	for _, o := range slices.Concat(orders(1), orders(2), orders(3)) {
		for _, fresh := range []int{0, 1, 4, 6} {
			r := of(fresh, o...)
			l := lean.Share(r, keys)
			for k, n := range o {
				count := 0
				for _, key := range keys {
					if lean.Pick(r, key) == n {
						count++
					}
				}
				if l[k] != count {
					t.Errorf("P14.1: Share(%v): %v, but %d is Picked %d times", r, l, n, count)
				}
			}
		}
	}
}

func TestShareOfNoKeys(t *testing.T) {
	for _, o := range allOrders() {
		for _, keys := range [][]string{nil, {}, few()[:0]} {
			if l := lean.Share(of(0, o...), keys); !slices.Equal(l, make([]int, len(o))) {
				t.Errorf("P14.1: Share(%v) of no keys: %v", o, l)
			}
		}
	}
}

func TestShareOfOneKey(t *testing.T) {
	for _, key := range few() {
		for _, o := range slices.Concat(orders(1), orders(2), orders(3), orders(5)) {
			r := of(0, o...)
			l := lean.Share(r, []string{key})
			if k := slices.Index(o, lean.Pick(r, key)); len(l) != len(o) || sum(l) != 1 || k < 0 || l[k] != 1 {
				t.Errorf("P14.1: Share(%v) of %.40q: %v", r, key, l)
			}
		}
	}
}

// TestShareOfAKeyTwice has each key count as often as it comes.
func TestShareOfAKeyTwice(t *testing.T) {
	for _, o := range slices.Concat(orders(1), orders(2), orders(3), orders(4)) {
		r := of(0, o...)
		shared(t, r, []string{"a", "a"})
		shared(t, r, []string{"a", "b", "a"})
		shared(t, r, []string{"", "", "b", ""})
		shared(t, r, slices.Repeat([]string{"k"}, 1000))
		shared(t, r, slices.Concat(few(), few()))
	}
}

func TestShareWhereNobodyMayBePicked(t *testing.T) {
	for n := 1; n <= 5; n++ {
		if l := lean.Share(of(n, n), many()); !slices.Equal(l, []int{0}) {
			t.Errorf("P14.1: Share of %d, which is New, alone: %v", n, l)
		}
	}
}

func TestShareOfAnEmptyList(t *testing.T) {
	for _, r := range []api.Roster{{}, {Epoch: 3}, {New: 4}, {Epoch: 3, L: []int{}}, {Epoch: 3, L: []int{1, 2}[:0]}} {
		for _, keys := range [][]string{nil, {}, {""}, {"a"}, many()} {
			if l := lean.Share(r, keys); len(l) != 0 {
				t.Errorf("P14.1: Share(%v) of %d keys: %v", r, len(keys), l)
			}
		}
	}
}

func TestShareOfMany(t *testing.T) {
	keys := many()
	for k := range 20000 {
		keys = append(keys, strings.Repeat("x", k%50)+string([]byte{byte(k), byte(k >> 8)}))
	}
	for _, r := range []api.Roster{of(0, 5, 3, 1, 2, 4), of(4, 5, 3, 1, 2, 4), of(0, 2, 5), of(5, 2, 5), of(0, 3), of(3, 3)} {
		shared(t, r, keys)
	}
}

// TestShareWithoutOne drops one: what the others had stays, at least, and all keys are shared.
func TestShareWithoutOne(t *testing.T) {
	keys := many()
	all := lean.Share(of(0, 1, 2, 3, 4, 5), keys)
	for n := 1; n <= 5; n++ {
		rest := slices.Delete([]int{1, 2, 3, 4, 5}, n-1, n)
		l := lean.Share(of(0, rest...), keys)
		if len(l) != 4 || sum(l) != len(keys) {
			t.Fatalf("P14.1: Share(%v): %v", rest, l)
		}
		for k, m := range rest {
			if l[k] < all[m-1] {
				t.Errorf("P14.1: without %d, %d has %d of its %d keys", n, m, l[k], all[m-1])
			}
		}
	}
}
