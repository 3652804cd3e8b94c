package roster_test

import (
	"slices"
	"testing"

	"armarium/api"
	"armarium/roster"
)

// roomy is r with room behind L, where nodes stand that are none of it.
func roomy(r api.Roster, room int) api.Roster {
	l := make([]int, len(r.L), len(r.L)+room)
	copy(l, r.L)
	for k := range room {
		l = append(l, 70+k)
	}
	r.L = l[:len(r.L)]
	return r
}

// whole is a copy of L with all that stands in the room behind it.
func whole(r api.Roster) []int { return slices.Clone(r.L[:cap(r.L)]) }

// spoil writes over L, and over the room behind it.
func spoil(r api.Roster) {
	l := r.L[:cap(r.L)]
	for k := range l {
		l[k] = -77
	}
}

// kept is a copy of r that has memory of its own.
func kept(r api.Roster) api.Roster {
	r.L = slices.Clone(r.L)
	return r
}

// turnsOf are what comes of Add and Drop of all nodes, of some that are none, too.
func turnsOf(r api.Roster) []api.Roster {
	var all []api.Roster
	for n := -1; n <= 7; n++ {
		a, _ := roster.Add(r, n)
		d, _ := roster.Drop(r, n)
		all = append(all, a, d)
	}
	return all
}

// everyRoster are rosters that may be and such as may not.
func everyRoster() []api.Roster {
	all := chains(3)
	for _, x := range bads() {
		all = append(all, x.r)
	}
	return all
}

func TestCallsLeaveWhatIsHandedIn(t *testing.T) {
	for _, r := range everyRoster() {
		for _, room := range []int{0, 1, 2, 9} {
			x := roomy(r, room)
			was := whole(x)
			turnsOf(x)
			for n := -1; n <= 7; n++ {
				ask(x, n)
			}
			roster.Head(x)
			roster.Tail(x)
			roster.May(x)
			roster.Eq(x, r)
			roster.Eq(r, x)
			if !slices.Equal(whole(x), was) || !same(x, r) {
				t.Errorf("P0.3: a call changes %v, room for %d", r, room)
			}
		}
	}
}

func TestAnswersStandByThemselves(t *testing.T) {
	for _, r := range everyRoster() {
		for _, room := range []int{0, 1, 2, 9} {
			x := roomy(r, room)
			was := whole(x)
			for k := range turnsOf(x) {
				answers := turnsOf(x)
				var want []api.Roster
				for _, a := range answers {
					want = append(want, kept(a))
				}
				spoil(answers[k])
				if !slices.Equal(whole(x), was) {
					t.Errorf("P0.3: the answer %d of %v, room for %d, shares its memory", k, r, room)
				}
				answers[k], want[k] = api.Roster{}, api.Roster{}
				if !slices.EqualFunc(answers, want, same) {
					t.Errorf("P0.3: the answer %d of %v, room for %d, shares another one's memory", k, r, room)
				}
			}
		}
	}
}

func TestAnswersOutlastWhatIsHandedIn(t *testing.T) {
	for _, r := range everyRoster() {
		for _, room := range []int{0, 1, 2, 9} {
			x := roomy(r, room)
			answers := turnsOf(x)
			spoil(x)
			for k, want := range turnsOf(roomy(r, 0)) {
				if !same(answers[k], want) {
					t.Errorf("P0.3: the answer %d of %v, room for %d, changes with it", k, r, room)
				}
			}
		}
	}
}

// TestTurnsOfOneRosterInTurn holds two answers of the same call against one another.
func TestTurnsOfOneRosterInTurn(t *testing.T) {
	for _, r := range everyRoster() {
		x := roomy(r, 9)
		one, two := turnsOf(x), turnsOf(x)
		for k := range one {
			want := kept(two[k])
			spoil(one[k])
			if !same(two[k], want) {
				t.Errorf("P0.3: two answers of %v share their memory", r)
			}
		}
		for k, again := range turnsOf(x) {
			if !same(again, two[k]) {
				t.Errorf("P0.5: of %v comes %v, then %v", r, two[k], again)
			}
		}
	}
}
