package shelf

import (
	"slices"

	"armarium/api"
	"armarium/book"
	"armarium/deed"
)

// known is what a replica knows. Its lists are never written to: what comes behind it has lists of its own, so that it
// stays as it was where that doesn't come to be.
type known struct {
	book          api.State
	pend          []api.Deed
	epoch, learnt int64
}

// seq is how many deeds are known in all.
func (k known) seq() int64 { return k.book.Seq + int64(len(k.pend)) }

// may tells whether k may be.
func (k known) may() bool {
	return book.May(k.book) && len(k.pend) <= api.MaxPend && !slices.ContainsFunc(k.pend, mayNot) &&
		k.seq() <= api.MaxNum && 0 <= k.learnt && k.learnt <= k.epoch
}

func mayNot(d api.Deed) bool { return !deed.May(d) }

// add is k with one deed more, whose text this is. By its text, not as it is: its parts may be pieces of long texts,
// which would be kept with them.
func (k known) add(text string) (known, api.Errno) {
	d, err := deed.Get(text)
	if err != api.OK {
		return known{}, err
	}
	if len(k.pend) == api.MaxPend || k.seq() == api.MaxNum {
		return known{}, api.ErrFull
	}
	k.pend = slices.Concat(k.pend, []api.Deed{d})
	return k, api.OK
}

// commit is k with all deeds done up to the seq-th, and what came of them.
func (k known) commit(seq int64) (known, []api.Result, api.Errno) {
	if seq <= k.book.Seq {
		return k, nil, api.OK
	}
	if seq > k.seq() {
		return known{}, nil, api.ErrRange
	}
	n := seq - k.book.Seq
	l := []api.Result{}
	for _, d := range k.pend[:n] {
		b, r := book.Do(k.book, d)
		k.book, l = b, append(l, r)
	}
	k.pend = slices.Clone(k.pend[n:])
	return k, l, api.OK
}

// enter is k in a later epoch.
func (k known) enter(epoch int64) (known, api.Errno) {
	if epoch <= k.epoch {
		return known{}, api.ErrOld
	}
	k.epoch = epoch
	return k, api.OK
}

// learn is what is known where the book is b, with l behind it.
func (k known) learn(b api.State, l []api.Deed) (known, api.Errno) {
	k.book, k.pend, k.learnt = b, l, k.epoch
	if !k.may() {
		return known{}, api.ErrForm
	}
	// Read back from its text, so that nothing is kept of what was handed in.
	k, _ = read(k.text())
	return k, api.OK
}

// copied is b in memory of its own.
func copied(b api.State) api.State {
	b.L, b.Memos = slices.Clone(b.L), slices.Clone(b.Memos)
	for n := range b.L {
		b.L[n].Vs = slices.Clone(b.L[n].Vs)
	}
	return b
}
