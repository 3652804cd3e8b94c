package book

import (
	"cmp"
	"slices"
	"strings"

	"armarium/api"
	"armarium/deed"
	"armarium/tome"
)

// Do is s behind the deed d, and what came of it.
func Do(s api.State, d api.Deed) (api.State, api.Result) {
	may := May(s) && deed.May(d)
	s = copied(s)
	if !may {
		return s, failed(api.ErrForm)
	}
	if s.Seq == api.MaxNum {
		return s, failed(api.ErrFull)
	}
	s.Seq++
	if d.Req < s.Lows[deed.Home(d.Req)-1] {
		return s, failed(api.ErrOld)
	}
	if r, ok := Told(s, d.Req); ok {
		return s, r
	}
	if len(s.Memos) == api.MaxMemo {
		return s, failed(api.ErrFull)
	}
	r := change(&s, d)
	keep(&s, api.Memo{Req: d.Req, Res: r})
	forget(&s, deed.Home(d.Req), d.Low)
	return s, r
}

func failed(err api.Errno) api.Result { return api.Result{Err: err} }

// change does to the entries of s what d says. The memory of s is its own.
func change(s *api.State, d api.Deed) api.Result {
	k, there := place(s.L, d.Key)
	if d.Kind == api.DPut {
		return put(s, k, there, d)
	}
	if !there {
		return failed(api.ErrNone)
	}
	if d.Kind == api.DDelete {
		return add(s, k, api.Version{Ver: s.Seq, Gone: true})
	}
	return purge(s, k, d.Ver)
}

// place is where the entry of the key stands in l, or where it would stand.
func place(l []api.Entry, key string) (int, bool) {
	return slices.BinarySearchFunc(l, key, func(e api.Entry, key string) int { return strings.Compare(e.Key, key) })
}

// put adds the version of d to its key's entry, which is there or would stand at k.
func put(s *api.State, k int, there bool, d api.Deed) api.Result {
	e := api.Entry{Key: d.Key}
	if there {
		e = s.L[k]
	}
	if !tome.Holds(e, d.Cond, d.Tag) {
		return failed(api.ErrMatch)
	}
	if !there {
		if len(s.L) == api.MaxKeys {
			return failed(api.ErrFull)
		}
		s.L = slices.Insert(s.L, k, e)
	}
	return add(s, k, api.Version{Ver: s.Seq, Body: d.Body})
}

// add adds v, which is above all that there are, to the entry at k.
func add(s *api.State, k int, v api.Version) api.Result {
	e, ok := tome.Add(s.L[k], v)
	if !ok {
		return failed(api.ErrFull)
	}
	s.L[k] = e
	return api.Result{Ver: v.Ver}
}

// purge takes the version ver from the entry at k, and the entry with its last one.
func purge(s *api.State, k int, ver int64) api.Result {
	e, ok := tome.Purge(s.L[k], ver)
	if !ok {
		return failed(api.ErrNone)
	}
	s.L[k] = e
	if len(e.Vs) == 0 {
		s.L = slices.Delete(s.L, k, k+1)
	}
	return api.Result{Ver: ver}
}

// keep puts m among the memos of s, none of which has its request.
func keep(s *api.State, m api.Memo) {
	k, _ := slices.BinarySearchFunc(s.Memos, m.Req, func(x api.Memo, req int64) int { return cmp.Compare(x.Req, req) })
	s.Memos = slices.Insert(s.Memos, k, m)
}

// forget leaves behind what the node home asked below low, if low is a request of its own and more than was left
// behind already.
func forget(s *api.State, home int, low int64) {
	if deed.Home(low) != home || low <= s.Lows[home-1] {
		return
	}
	s.Lows[home-1] = low
	s.Memos = slices.DeleteFunc(s.Memos, func(m api.Memo) bool { return deed.Home(m.Req) == home && m.Req < low })
}
