package link

import (
	"slices"

	"armarium/api"
	"armarium/book"
	"armarium/deed"
	"armarium/roster"
)

// take does what a word asks, and answers what is said then.
func (l *Link) take(w api.Word, now int64) []api.Word {
	switch w.Kind {
	case api.WLease:
		return l.lease(w, now)
	case api.WDone:
		l.keep(w)
		return nil
	}
	if w.Epoch != l.roster.Epoch {
		return nil
	}
	switch w.Kind {
	case api.WState:
		return l.learn(w, now)
	case api.WTold:
		l.hear(w)
		return nil
	}
	if !l.Active(now) {
		return nil
	}
	switch w.Kind {
	case api.WWrite:
		return l.write(w, now)
	case api.WPass:
		return l.pass(w, now)
	case api.WNeed:
		return l.need(w, now)
	case api.WAck:
		return l.commit(w, now)
	case api.WAsk:
		return l.answer(w, now)
	}
	return nil
}

// lease stands in the chief's chain, up to the lease's end.
func (l *Link) lease(w api.Word, now int64) []api.Word {
	if w.From != 0 || !roster.Has(w.Roster, l.id) {
		return nil
	}
	// Nothing, where the epoch is not a later one.
	l.shelf.Enter(w.Roster.Epoch)
	if w.Roster.Epoch < l.shelf.Epoch() {
		return nil
	}
	// An epoch's lease says nothing about another epoch's.
	if w.Roster.Epoch != l.roster.Epoch {
		l.until = w.Until
	}
	l.until, l.roster = max(l.until, w.Until), w.Roster
	if !l.Active(now) || !l.isTail() {
		return nil
	}
	return l.commitAll(now)
}

// write takes a deed into the chain.
func (l *Link) write(w api.Word, now int64) []api.Word {
	if roster.Head(l.roster) != l.id || len(w.Deeds) != 1 {
		return nil
	}
	d := w.Deeds[0]
	if r, ok := book.Told(l.shelf.Book(), d.Req); ok {
		return l.tell(d.Req, r, now)
	}
	if slices.ContainsFunc(l.shelf.Pend(), func(x api.Deed) bool { return x.Req == d.Req }) {
		return nil
	}
	q := l.shelf.Seq()
	if l.shelf.Add(d) != api.OK {
		return nil
	}
	return l.passOn(q, now)
}

// pass takes deeds from the one ahead.
func (l *Link) pass(w api.Word, now int64) []api.Word {
	if !is(w.From, l.ahead()) {
		return nil
	}
	q := l.shelf.Seq()
	if w.Seq > q {
		x := l.word(api.WNeed, w.From)
		x.Seq = q
		return l.say(x, now)
	}
	for _, d := range w.Deeds[min(q-w.Seq, int64(len(w.Deeds))):] {
		if l.shelf.Add(d) != api.OK {
			break
		}
	}
	var out []api.Word
	some := l.shelf.Seq() > q
	if some {
		out = l.passOn(q, now)
	}
	if l.isTail() {
		return append(out, l.ack(l.shelf.Seq(), now)...)
	}
	// Who is behind with what is committed may have missed a WAck.
	if seq := l.committed(); !some && seq > w.Seq {
		return l.ack(seq, now)
	}
	return out
}

// need gives the next one what it lacks.
func (l *Link) need(w api.Word, now int64) []api.Word {
	if !is(w.From, l.next()) {
		return nil
	}
	if w.Req == needAll && w.From == l.roster.New {
		x := l.word(api.WState, w.From)
		x.State, x.Seq, x.Deeds = l.shelf.Book(), l.shelf.Seq(), l.shelf.Pend()
		return l.say(x, now)
	}
	if w.Seq < l.committed() || w.Seq >= l.shelf.Seq() {
		return nil
	}
	return l.send(w.Seq, now)
}

// commit does what the next one has done.
func (l *Link) commit(w api.Word, now int64) []api.Word {
	if !is(w.From, l.next()) {
		return nil
	}
	was := l.committed()
	l.commitTo(w.Seq)
	seq := l.committed()
	if seq == was {
		return nil
	}
	return l.ack(seq, now)
}

// answer tells who asks how much is committed.
func (l *Link) answer(w api.Word, now int64) []api.Word {
	if !roster.Has(l.roster, w.From) || !l.isTail() {
		return nil
	}
	return l.say(l.told(w.From, w.Req), now)
}

// learn takes all that the one ahead has, in place of what was known.
func (l *Link) learn(w api.Word, now int64) []api.Word {
	if !l.mustLearn(now) || w.From != l.ahead() || l.shelf.Learn(w.State, w.Deeds) != api.OK {
		return nil
	}
	l.commitTo(l.shelf.Seq())
	return append(l.say(l.word(api.WFull, 0), now), l.ack(l.shelf.Seq(), now)...)
}

// hear takes what the tail tells of a request, and of what is committed.
func (l *Link) hear(w api.Word) {
	if !is(w.From, roster.Tail(l.roster)) {
		return
	}
	l.commitTo(w.Seq)
	l.keep(w)
}

// keep has a word be of Done, where its request is this one's own.
func (l *Link) keep(w api.Word) {
	if deed.Home(w.Req) == l.id {
		l.done = append(l.done, w)
	}
}

// commitTo commits what is known up to the seq-th deed.
func (l *Link) commitTo(seq int64) { l.shelf.Commit(min(seq, l.shelf.Seq())) }

// is tells whether n is that node, where there is one: the chief is 0, too.
func is(n, node int) bool { return n == node && node > 0 }
