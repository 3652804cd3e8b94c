package chief

import (
	"armarium/api"
	"armarium/journal"
	"armarium/pouch"
	"armarium/roster"
)

// longLog is above how many bytes of LOG a roster is laid in place of all that there is, else LOG would grow for ever.
const longLog = 500

// write has r last, behind the one that lasted.
func write(j *journal.Journal, r api.Roster) api.Errno {
	if j.Long() > longLog {
		return j.Lay(text(r))
	}
	return j.Add(text(r), true)
}

// lasting is the roster that a journal has, the zero one where it has none yet; false where no chief has such a journal.
func lasting(j *journal.Journal) (api.Roster, bool) {
	r, ok := api.Roster{}, true
	if first := j.First(); first != "" {
		r, ok = read(first)
	}
	for _, record := range j.Records() {
		next, may := read(record)
		ok = ok && may && follows(r, next)
		r = next
	}
	if !ok {
		return api.Roster{}, false
	}
	return r, true
}

// follows tells whether a chief writes b right behind a.
func follows(a, b api.Roster) bool {
	// The first one of all.
	if a.Epoch == 0 {
		return b.New == 0
	}
	for n := 1; n <= api.MaxNodes; n++ {
		more, _ := roster.Add(a, n)
		less, _ := roster.Drop(a, n)
		if roster.Eq(b, more) || roster.Eq(b, less) {
			return true
		}
	}
	full := a
	full.New = 0
	return a.New != 0 && roster.Eq(b, full)
}

func num(n int64) pouch.Value { return pouch.Value{Kind: pouch.Num, N: n} }

// text is r in bytes.
func text(r api.Roster) string {
	l := []pouch.Value{num(r.Epoch), num(int64(r.New))}
	for _, n := range r.L {
		l = append(l, num(int64(n)))
	}
	return pouch.Put(pouch.Value{Kind: pouch.List, L: l})
}

// read is the roster whose text this is; false where it is none's.
func read(s string) (api.Roster, bool) {
	v, err := pouch.All(s)
	if err != api.OK || len(v.L) < 2 {
		return api.Roster{}, false
	}
	r := api.Roster{Epoch: v.L[0].N, New: int(v.L[1].N)}
	for _, x := range v.L[2:] {
		r.L = append(r.L, int(x.N))
	}
	// A part of another kind was read as 0, but no roster's text has it.
	if !roster.May(r) || text(r) != s {
		return api.Roster{}, false
	}
	return r, true
}
