package word

import (
	"armarium/api"
	"armarium/book"
	"armarium/deed"
	"armarium/gauss"
	"armarium/pouch"
)

const (
	// digits is how many digits a mark has.
	digits = 8
	// parts is how many parts the value of a word has.
	parts = 12
)

// Put is w in bytes, "" where w may not be: its value's text, with the mark of that ahead. One byte turned leaves the
// mark or the text as it was; and texts that differ in one byte have unlike marks, since Mul by 3+5i keeps apart what
// differs.
func Put(w api.Word) string {
	if !May(w) {
		return ""
	}
	text := pouch.Put(value(w))
	return gauss.Text(gauss.Mark([]byte(text))) + text
}

// Get is the word whose Put is s.
func Get(s string) (api.Word, api.Errno) {
	v, err := pouch.All(s[min(len(s), digits):])
	if err != api.OK || len(v.L) != parts {
		return api.Word{}, api.ErrForm
	}
	w := of(v.L)
	// What is no book's or deed's was read as zero, parts of other kinds as well, and the mark was not looked at, but
	// s is Put of none of these.
	if Put(w) != s {
		return api.Word{}, api.ErrForm
	}
	return w, api.OK
}

func num(n int64) pouch.Value { return pouch.Value{Kind: pouch.Num, N: n} }

func list(l ...pouch.Value) pouch.Value { return pouch.Value{Kind: pouch.List, L: l} }

// value is w as a value. The book is a text in it: as a list of lists it would be too deep.
func value(w api.Word) pouch.Value {
	return list(
		num(int64(w.Kind)), num(int64(w.From)), num(int64(w.To)),
		num(w.Epoch), num(w.Seq), num(w.Req), num(w.Until), num(int64(w.Res.Err)), num(w.Res.Ver),
		rosterValue(w.Roster), deedsValue(w.Deeds), pouch.Value{Kind: pouch.Str, S: book.Put(w.State)},
	)
}

func rosterValue(r api.Roster) pouch.Value {
	l := []pouch.Value{num(r.Epoch), num(int64(r.New))}
	for _, n := range r.L {
		l = append(l, num(int64(n)))
	}
	return list(l...)
}

func deedsValue(l []api.Deed) pouch.Value {
	vs := []pouch.Value{}
	for _, d := range l {
		vs = append(vs, deed.Value(d))
	}
	return list(vs...)
}

// of is the word of a value with these parts.
func of(l []pouch.Value) api.Word {
	w := api.Word{
		Kind: int(l[0].N), From: int(l[1].N), To: int(l[2].N),
		Epoch: l[3].N, Seq: l[4].N, Req: l[5].N, Until: l[6].N, Res: api.Result{Err: api.Errno(l[7].N), Ver: l[8].N},
		Roster: rosterOf(l[9].L), Deeds: deedsOf(l[10].L),
	}
	w.State, _ = book.Read(l[11].S)
	return w
}

// rosterOf is the roster of a list of these parts, the zero one where it has too few of them.
func rosterOf(l []pouch.Value) api.Roster {
	if len(l) < 2 {
		return api.Roster{}
	}
	r := api.Roster{Epoch: l[0].N, New: int(l[1].N)}
	for _, x := range l[2:] {
		r.L = append(r.L, int(x.N))
	}
	return r
}

func deedsOf(l []pouch.Value) []api.Deed {
	ds := []api.Deed{}
	for _, x := range l {
		d, _ := deed.Of(x)
		ds = append(ds, d)
	}
	return ds
}
