package link_test

import (
	"slices"

	"armarium/api"
	"armarium/book"
)

// model is a replica told in another way: all that it knows lies open, on no chest, and what it says is laid down as it
// is said.
type model struct {
	id int
	known
	done, out []api.Word
	now       int64
}

// modelOf knows what r knows.
func modelOf(r replica) *model { return &model{id: r.id, known: r.known()} }

// by is the node so many places behind this one.
func (m *model) by(d int) int {
	k := slices.Index(m.Roster.L, m.id)
	if k < 0 || k+d < 0 || k+d >= len(m.Roster.L) {
		return 0
	}
	return m.Roster.L[k+d]
}

func (m *model) there() bool { return slices.Contains(m.Roster.L, m.id) }

func (m *model) tail() bool { return m.there() && m.Roster.L[len(m.Roster.L)-1] == m.id }

func (m *model) lacks() bool { return m.Roster.New == m.id && m.Learnt != m.Roster.Epoch }

func (m *model) active() bool {
	return m.there() && !m.lacks() && !(m.now > m.Until) && !m.Down && m.Epoch == m.Roster.Epoch
}

// say sends w, or does it.
func (m *model) say(w api.Word) {
	w.From, w.Epoch = m.id, m.Roster.Epoch
	if w.To == m.id {
		m.do(w)
		return
	}
	m.out = append(m.out, w)
}

// ack acknowledges to the one ahead.
func (m *model) ack(seq int64) {
	if m.by(-1) != 0 {
		m.say(api.Word{Kind: api.WAck, To: m.by(-1), Seq: seq})
	}
}

// send passes those behind q, which is not below the book's.
func (m *model) send(q int64) {
	l := []api.Deed{}
	for k, d := range m.Pend {
		if at := m.Book.Seq + int64(k) + 1; at > q && at <= q+6 {
			l = append(l, d)
		}
	}
	m.say(api.Word{Kind: api.WPass, To: m.by(1), Seq: q, Deeds: l})
}

// commits commits the deeds up to seq, if there are so many, and tells who wrote them, if asked to.
func (m *model) commits(seq int64, tells bool) {
	n := max(0, int(min(seq, m.Seq)-m.Book.Seq))
	if m.Down {
		return
	}
	l := m.Pend[:n]
	k, results := m.commit(n)
	m.known = k
	for k, r := range results {
		if tells {
			m.say(api.Word{Kind: api.WDone, To: int(l[k].Req / base), Req: l[k].Req, Res: r})
		}
	}
}

// adds adds a deed, if there is a place for it.
func (m *model) adds(d api.Deed) bool {
	if m.Down || len(m.Pend) == 60 || m.Seq == top {
		return false
	}
	m.known = m.add(d)
	return true
}

func (m *model) passesOn(q int64) {
	if m.by(1) != 0 {
		m.send(q)
	} else {
		m.commits(m.Seq, true)
	}
}

// do does what a word asks that may be, or that it says to itself.
func (m *model) do(w api.Word) {
	if w.Kind == api.WLease {
		m.lease(w)
		return
	}
	mine := w.Req/base == int64(m.id) && w.Req%base != 0
	if w.Kind == api.WDone && mine {
		m.done = append(m.done, w)
	}
	if w.Epoch != m.Roster.Epoch || !m.there() {
		return
	}
	head, tail := m.Roster.L[0], m.Roster.L[len(m.Roster.L)-1]
	switch {
	case w.Kind == api.WTold && w.From == tail:
		m.commits(w.Seq, false)
		if mine {
			m.done = append(m.done, w)
		}
	case w.Kind == api.WState && w.From == m.by(-1) && m.lacks() && m.now <= m.Until:
		m.learn(w)
	case !m.active():
	case w.Kind == api.WWrite && head == m.id && len(w.Deeds) == 1:
		m.write(w.Deeds[0])
	case w.Kind == api.WPass && w.From == m.by(-1) && w.From != 0:
		m.pass(w)
	case w.Kind == api.WNeed && w.From == m.by(1) && w.From != 0:
		if w.Req == 1 && w.From == m.Roster.New {
			m.say(api.Word{Kind: api.WState, To: w.From, State: m.Book, Seq: m.Seq, Deeds: m.Pend})
		} else if m.Book.Seq <= w.Seq && w.Seq < m.Seq {
			m.send(w.Seq)
		}
	case w.Kind == api.WAck && w.From == m.by(1) && w.From != 0:
		was := m.Book.Seq
		m.commits(w.Seq, false)
		if m.Book.Seq > was {
			m.ack(m.Book.Seq)
		}
	case w.Kind == api.WAsk && tail == m.id && slices.Contains(m.Roster.L, w.From):
		m.say(api.Word{Kind: api.WTold, To: w.From, Req: w.Req, Seq: m.Book.Seq})
	}
}

func (m *model) lease(w api.Word) {
	if w.From != 0 || !slices.Contains(w.Roster.L, m.id) || w.Roster.Epoch < m.Epoch {
		return
	}
	if !m.Down {
		m.Epoch = w.Roster.Epoch
	}
	if w.Roster.Epoch > m.Roster.Epoch || w.Until > m.Until {
		m.Until = w.Until
	}
	m.Roster = w.Roster
	if m.active() && m.tail() {
		m.commits(m.Seq, true)
	}
}

func (m *model) write(d api.Deed) {
	if r, ok := book.Told(m.Book, d.Req); ok {
		m.say(api.Word{Kind: api.WDone, To: int(d.Req / base), Req: d.Req, Res: r})
		return
	}
	for _, x := range m.Pend {
		if x.Req == d.Req {
			return
		}
	}
	if m.adds(d) {
		m.passesOn(m.Seq - 1)
	}
}

func (m *model) pass(w api.Word) {
	q := m.Seq
	if w.Seq > q {
		m.say(api.Word{Kind: api.WNeed, To: w.From, Seq: q})
		return
	}
	for k, d := range w.Deeds {
		if w.Seq+int64(k)+1 > q && !m.adds(d) {
			break
		}
	}
	some := m.Seq != q
	if some {
		m.passesOn(q)
	}
	if m.tail() {
		m.ack(m.Seq)
	} else if !some && m.Book.Seq > w.Seq {
		m.ack(m.Book.Seq)
	}
}

func (m *model) learn(w api.Word) {
	if m.Down || w.State.Seq+int64(len(w.Deeds)) > top {
		return
	}
	m.Book, m.Pend, m.Seq, m.Learnt = w.State, w.Deeds, w.State.Seq+int64(len(w.Deeds)), m.Epoch
	m.commits(m.Seq, false)
	m.say(api.Word{Kind: api.WFull, To: 0})
	m.ack(m.Seq)
}

// call has the model do something at a time, and answers what is said.
func (m *model) call(now int64, do func()) []api.Word {
	m.now, m.out = now, nil
	do()
	return m.out
}

// step is Step of a word that may be.
func (m *model) step(w api.Word, now int64) []api.Word {
	return m.call(now, func() {
		if w.To == m.id {
			m.do(clone(w))
		}
	})
}

func (m *model) tick(now int64) []api.Word {
	return m.call(now, func() {
		if m.Down {
			return
		}
		m.say(api.Word{Kind: api.WBeat, To: 0})
		if m.there() && m.lacks() && now <= m.Until {
			m.say(api.Word{Kind: api.WNeed, To: m.by(-1), Req: 1})
		}
		if m.active() && m.by(1) != 0 && len(m.Pend) > 0 {
			m.send(m.Book.Seq)
		}
		if m.active() && m.tail() {
			m.ack(m.Seq)
		}
	})
}

// writes is Write of a deed that may be.
func (m *model) writes(d api.Deed, now int64) []api.Word {
	return m.call(now, func() {
		if m.there() {
			m.say(api.Word{Kind: api.WWrite, To: m.Roster.L[0], Deeds: []api.Deed{d}})
		}
	})
}

func (m *model) ask(req, now int64) []api.Word {
	return m.call(now, func() {
		if m.active() && m.tail() {
			m.done = append(m.done, api.Word{Kind: api.WTold, From: m.id, To: m.id, Epoch: m.Roster.Epoch, Req: req, Seq: m.Book.Seq})
		} else if m.there() {
			m.say(api.Word{Kind: api.WAsk, To: m.Roster.L[len(m.Roster.L)-1], Req: req})
		}
	})
}

func (m *model) ready(key string, now int64) bool {
	m.now = now
	for _, d := range m.Pend {
		if key == "" || key == d.Key {
			return false
		}
	}
	return m.active()
}

// takes is all that is of Done.
func (m *model) takes() []api.Word {
	l := m.done
	m.done = nil
	return l
}
