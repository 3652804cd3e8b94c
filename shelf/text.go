package shelf

import (
	"strings"

	"armarium/api"
	"armarium/book"
	"armarium/deed"
	"armarium/pouch"
)

// What a record begins with.
const (
	addRecord    = "A" // behind it: the deed
	commitRecord = "C" // behind it: up to which deed
	enterRecord  = "E" // behind it: the epoch
)

// turn is k behind the record; false where a shelf that knows k writes no such record.
func (k known) turn(record string) (known, bool) {
	if text, ok := strings.CutPrefix(record, addRecord); ok {
		k, err := k.add(text)
		return k, err == api.OK
	}
	if text, ok := strings.CutPrefix(record, commitRecord); ok {
		k, l, _ := k.commit(numberOf(text))
		return k, len(l) > 0
	}
	if text, ok := strings.CutPrefix(record, enterRecord); ok {
		k, err := k.enter(numberOf(text))
		return k, err == api.OK
	}
	return known{}, false
}

// number is n in bytes.
func number(n int64) string { return pouch.Put(num(n)) }

// numberOf is the number whose bytes these are, else 0: up to that nothing is to commit, and no epoch is to enter.
func numberOf(text string) int64 {
	v, _ := pouch.All(text)
	return v.N
}

func num(n int64) pouch.Value { return pouch.Value{Kind: pouch.Num, N: n} }

func list(l ...pouch.Value) pouch.Value { return pouch.Value{Kind: pouch.List, L: l} }

// text is k in bytes. The book is a text in it: as a list of lists it would be too deep.
func (k known) text() string {
	pend := []pouch.Value{}
	for _, d := range k.pend {
		pend = append(pend, deed.Value(d))
	}
	b := pouch.Value{Kind: pouch.Str, S: book.Put(k.book)}
	return pouch.Put(list(num(k.epoch), num(k.learnt), b, list(pend...)))
}

// read is what is known where a journal's first text is this one; false where a shelf lays no such text.
func read(text string) (known, bool) {
	// The first text of a new journal.
	if text == "" {
		return known{}, true
	}
	v, err := pouch.All(text)
	if err != api.OK || len(v.L) != 4 {
		return known{}, false
	}
	k := known{epoch: v.L[0].N, learnt: v.L[1].N}
	k.book, _ = book.Read(v.L[2].S)
	for _, x := range v.L[3].L {
		d, _ := deed.Of(x)
		k.pend = append(k.pend, d)
	}
	// What is no book's or deed's was read as zero, and parts of other kinds as well, but no shelf's text has them.
	if !k.may() || k.text() != text {
		return known{}, false
	}
	return k, true
}
