package book

import (
	"armarium/api"
	"armarium/pouch"
)

// Put is s in bytes, "" where s may not be.
func Put(s api.State) string {
	if !May(s) {
		return ""
	}
	return pouch.Put(bookValue(s))
}

// Read is the book whose Put is t.
func Read(t string) (api.State, api.Errno) {
	v, err := pouch.All(t)
	if err != api.OK {
		return api.State{}, api.ErrForm
	}
	s := bookOf(v)
	// Values of other shapes were read as well, and books that may not be, but t is Put of none of these.
	if Put(s) != t {
		return api.State{}, api.ErrForm
	}
	return s, api.OK
}

// What a book is made of, as values: each a list of its parts, in the order of their fields.

func bookValue(s api.State) pouch.Value {
	return list(num(s.Seq), each(s.L, entryValue), each(s.Memos, memoValue), each(s.Lows[:], num))
}

func entryValue(e api.Entry) pouch.Value { return list(str(e.Key), each(e.Vs, versionValue)) }

func versionValue(v api.Version) pouch.Value {
	gone := int64(0)
	if v.Gone {
		gone = 1
	}
	return list(num(v.Ver), num(gone), str(v.Body))
}

func memoValue(m api.Memo) pouch.Value {
	return list(num(m.Req), num(int64(m.Res.Err)), num(m.Res.Ver))
}

func num(n int64) pouch.Value { return pouch.Value{Kind: pouch.Num, N: n} }

func str(s string) pouch.Value { return pouch.Value{Kind: pouch.Str, S: s} }

func list(l ...pouch.Value) pouch.Value { return pouch.Value{Kind: pouch.List, L: l} }

// each is the list of what f makes of each of l.
func each[T any](l []T, f func(T) pouch.Value) pouch.Value {
	vs := []pouch.Value{}
	for _, x := range l {
		vs = append(vs, f(x))
	}
	return list(vs...)
}

// And back. What a value lacks is zero.

func bookOf(v pouch.Value) api.State {
	s := api.State{Seq: part(v, 0).N, L: all(part(v, 1), entryOf), Memos: all(part(v, 2), memoOf)}
	for k := range s.Lows {
		s.Lows[k] = part(part(v, 3), k).N
	}
	return s
}

func entryOf(v pouch.Value) api.Entry {
	return api.Entry{Key: part(v, 0).S, Vs: all(part(v, 1), versionOf)}
}

func versionOf(v pouch.Value) api.Version {
	return api.Version{Ver: part(v, 0).N, Gone: part(v, 1).N == 1, Body: part(v, 2).S}
}

func memoOf(v pouch.Value) api.Memo {
	return api.Memo{Req: part(v, 0).N, Res: api.Result{Err: api.Errno(part(v, 1).N), Ver: part(v, 2).N}}
}

// part is the k-th part of a list, zero where it has none.
func part(v pouch.Value, k int) pouch.Value {
	if k >= len(v.L) {
		return pouch.Value{}
	}
	return v.L[k]
}

// all is what f makes of each part of a list.
func all[T any](v pouch.Value, f func(pouch.Value) T) []T {
	l := []T{}
	for _, x := range v.L {
		l = append(l, f(x))
	}
	return l
}
