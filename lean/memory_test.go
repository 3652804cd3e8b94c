package lean_test

import (
	"slices"
	"testing"

	"armarium/api"
	"armarium/lean"
)

// roomy is a copy of l with room behind it, where things stand that are none of it.
func roomy[T any](l []T, room int, thing T) []T {
	x := make([]T, 0, len(l)+room)
	x = append(x, l...)
	for range room {
		x = append(x, thing)
	}
	return x[:len(l)]
}

// whole is a copy of l with all that stands in the room behind it.
func whole[T any](l []T) []T { return slices.Clone(l[:cap(l)]) }

// spoil writes over l, and over the room behind it.
func spoil[T any](l []T, thing T) {
	l = l[:cap(l)]
	for k := range l {
		l[k] = thing
	}
}

// rosters are some that chains have and some that none has.
func rosters() []api.Roster {
	all := slices.Clone(strange())
	for _, o := range allOrders() {
		all = append(all, of(0, o...), of(o[len(o)-1], o...))
	}
	return append(all, api.Roster{}, of(2))
}

func TestCallsLeaveWhatIsHandedIn(t *testing.T) {
	for _, r := range rosters() {
		for _, room := range []int{0, 1, 9} {
			x := r
			x.L = roomy(r.L, room, 3)
			keys := roomy(few(), room, "none of them")
			list, texts := whole(x.L), whole(keys)
			lean.Pick(x, keys[0])
			lean.Share(x, keys)
			lean.Share(x, keys[:0])
			if !slices.Equal(whole(x.L), list) || !slices.Equal(whole(keys), texts) {
				t.Errorf("P0.3: a call changes %v, or the keys, room for %d", r, room)
			}
		}
	}
}

func TestAnswersStandByThemselves(t *testing.T) {
	for _, r := range rosters() {
		for _, room := range []int{0, 1, 9} {
			x := r
			x.L = roomy(r.L, room, 3)
			keys := few()
			list := whole(x.L)
			one, two, none := lean.Share(x, keys), lean.Share(x, keys), lean.Share(x, nil)
			want := slices.Clone(one)
			spoil(one, -77)
			if !slices.Equal(two, want) || !slices.Equal(none, make([]int, len(r.L))) || !slices.Equal(whole(x.L), list) {
				t.Errorf("P0.3: a Share of %v, room for %d, is another one's memory, or the list's", r, room)
			}
			spoil(none, -78)
			if again := lean.Share(x, keys); !slices.Equal(again, want) || !slices.Equal(two, want) {
				t.Errorf("P0.3: what was told of %v, room for %d, changes what is told: %v, not %v", r, room, again, want)
			}
		}
	}
}

func TestAnswersOutlastWhatIsHandedIn(t *testing.T) {
	for _, r := range rosters() {
		x := r
		x.L = roomy(r.L, 9, 3)
		keys := roomy(few(), 9, "none of them")
		got := lean.Share(x, keys)
		want := slices.Clone(got)
		spoil(x.L, 2)
		spoil(keys, "another one")
		if !slices.Equal(got, want) {
			t.Errorf("P0.3: a Share of %v changes with what was handed in", r)
		}
		if l := lean.Share(r, few()); !slices.Equal(l, want) {
			t.Errorf("P0.5: Share(%v): %v, then %v", r, want, l)
		}
	}
}

// TestAnswersHangOnArguments asks all of it twice, forth and back.
func TestAnswersHangOnArguments(t *testing.T) {
	all := rosters()
	var first [][]int
	for _, r := range all {
		first = append(first, lean.Share(r, few()))
	}
	for k := len(all) - 1; k >= 0; k-- {
		if l := lean.Share(all[k], few()); !slices.Equal(l, first[k]) {
			t.Errorf("P0.5: Share(%v): %v, then %v", all[k], first[k], l)
		}
	}
}

// TestOneRosterThatChanges has one list whose numbers are written over between calls.
func TestOneRosterThatChanges(t *testing.T) {
	l := weigh(few())
	r := of(0, 1, 2, 3)
	for _, o := range orders(3) {
		copy(r.L, o)
		picks(t, r, l)
		shared(t, r, few())
	}
}
