package link

import (
	"armarium/api"
	"armarium/deed"
)

// needAll is the Req of a WNeed of a new one, who has to learn all.
const needAll = 1

// word is a word of that kind to a node, as yet with nothing in it.
func (l *Link) word(kind, to int) api.Word {
	return api.Word{Kind: kind, From: l.id, To: to, Epoch: l.roster.Epoch}
}

// say is what is sent where w is said: w, but where it is to itself what it makes, done at once.
func (l *Link) say(w api.Word, now int64) []api.Word {
	if w.To == l.id {
		return l.take(w, now)
	}
	return []api.Word{w}
}

// tell tells who wrote what came of it.
func (l *Link) tell(req int64, r api.Result, now int64) []api.Word {
	w := l.word(api.WDone, deed.Home(req))
	w.Req, w.Res = req, r
	return l.say(w, now)
}

// told is the word to a node of how much is committed.
func (l *Link) told(to int, req int64) api.Word {
	w := l.word(api.WTold, to)
	w.Req, w.Seq = req, l.committed()
	return w
}

// ack tells the one ahead, if there is one, that all up to the seq-th deed is committed.
func (l *Link) ack(seq, now int64) []api.Word {
	if l.ahead() == 0 {
		return nil
	}
	w := l.word(api.WAck, l.ahead())
	w.Seq = seq
	return l.say(w, now)
}

// send passes the first deeds behind the q-th one to the next one.
func (l *Link) send(q, now int64) []api.Word {
	w := l.word(api.WPass, l.next())
	w.Seq = q
	behind := l.shelf.Pend()[q-l.committed():]
	w.Deeds = append(w.Deeds, behind[:min(len(behind), api.MaxSend)]...)
	return l.say(w, now)
}

// passOn passes what is new behind the q-th deed on; the tail commits it.
func (l *Link) passOn(q, now int64) []api.Word {
	if l.isTail() {
		return l.commitAll(now)
	}
	return l.send(q, now)
}

// commitAll commits all deeds, and tells who wrote them what came of them.
func (l *Link) commitAll(now int64) []api.Word {
	pend := l.shelf.Pend()
	results, _ := l.shelf.Commit(l.shelf.Seq())
	var out []api.Word
	for k, r := range results {
		out = append(out, l.tell(pend[k].Req, r, now)...)
	}
	return out
}
