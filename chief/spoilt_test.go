package chief_test

import (
	"fmt"
	"math"
	"slices"
	"strings"
	"testing"

	"armarium/api"
	"armarium/chief"
	"armarium/journal"
	"armarium/pouch"
	"armarium/roll"
)

// kept is a LOG of a chief, and which roster lasts with so many leaves of it ("": none, so that first counts).
type kept struct {
	log     string
	rosters []string
}

// lasting are the LOGs of chiefs that have just been opened, and of one behind each of its changes.
func lasting(t *testing.T) []kept {
	t.Helper()
	l := []kept{{journalOf(t, of(top, 0, 5, 3, 1, 2, 4)), []string{"", "{1099511627776 [5 3 1 2 4] 0}"}}}
	all := writing(t)
	at := kept{all[0].log, []string{"", all[0].was}}
	l = append(l, at)
	for _, x := range all {
		if !strings.HasPrefix(x.after, at.log) {
			at.rosters = nil
		}
		at = kept{x.after, slices.Concat(at.rosters, []string{x.is})}
		l = append(l, at)
	}
	return l
}

// some are the ones among lasting with few leaves, and the last one.
func some(t *testing.T) []kept {
	t.Helper()
	l := lasting(t)
	return slices.DeleteFunc(l, func(x kept) bool { return len(x.rosters) > 4 && x.log != l[len(l)-1].log })
}

// leavesOf is what the journal of a LOG has; false where the journal does not take it.
func leavesOf(t *testing.T, log string) ([]string, bool) {
	t.Helper()
	j, err := journal.Open(written(t, map[string]string{"LOG": log}))
	if err != api.OK {
		return nil, false
	}
	return slices.Concat([]string{j.First()}, j.Records()), true
}

// likeSpoilt asks that Open of a LOG answers ErrCorrupt, or, where the journal takes its end for a torn one, that the
// roster lasts that did so with as many leaves. It tells which of them it was.
func likeSpoilt(t *testing.T, what string, was kept, log string) string {
	t.Helper()
	leaves, ok := leavesOf(t, log)
	c, err := chief.Open(written(t, map[string]string{"LOG": log}), of(77, 0, 2), 50)
	if !ok {
		if c != nil || err != api.ErrCorrupt {
			t.Fatalf("P10.1: Open, %s: %s, error %d", what, told(c), err)
		}
		return "spoilt"
	}
	want := was.rosters[len(leaves)-1]
	if want == "" {
		want = "{77 [2] 0}"
	}
	if err != api.OK || outline(c) != want || (c.Until() == 50) != (len(leaves) == 1 && leaves[0] == "") {
		t.Fatalf("P10.1: Open, %s: %s, error %d, not %s", what, told(c), err, want)
	}
	return "torn"
}

func TestAByteTurned(t *testing.T) {
	t.Parallel()
	count := map[string]int{}
	for k, x := range some(t) {
		for at := range x.log {
			for turn := 1; turn < 256; turn += 2 {
				b := []byte(x.log)
				b[at] ^= byte(turn)
				count[likeSpoilt(t, fmt.Sprintf("the LOG %d, with the byte %d turned by %d", k, at, turn), x, string(b))]++
			}
		}
	}
	if count["spoilt"] < 10000 || count["torn"] == 0 {
		t.Errorf("so often it was this and that: %v", count)
	}
}

func TestAByteLessOrMore(t *testing.T) {
	for k, x := range some(t) {
		for at := range x.log {
			likeSpoilt(t, fmt.Sprintf("the LOG %d, without the byte %d", k, at), x, x.log[:at]+x.log[at+1:])
			likeSpoilt(t, fmt.Sprintf("the LOG %d, with one more at %d", k, at), x, x.log[:at]+"~"+x.log[at:])
		}
		corrupt(t, "bytes behind all", x.log+"~")
	}
}

// corrupt asks that Open finds a LOG spoilt, whatever is first: it is, so that one lasted.
func corrupt(t *testing.T, what, log string) {
	t.Helper()
	for _, first := range []api.Roster{of(1, 0, 1), {}, of(0, 0, 1)} {
		d := written(t, map[string]string{"LOG": log})
		for range 2 {
			if c, err := chief.Open(d, first, 50); c != nil || err != api.ErrCorrupt {
				t.Errorf("P10.1: Open, %s, %.300q: %s, error %d", what, log, told(c), err)
			}
		}
	}
}

// A LOG that ends anywhere.
func TestAnEnd(t *testing.T) {
	for k, x := range lasting(t) {
		leaves, _ := leavesOf(t, x.log)
		if len(leaves) != len(x.rosters) {
			t.Fatalf("the LOG %d has %q, for %q", k, leaves, x.rosters)
		}
		for n := range len(x.log) + 1 {
			if what := fmt.Sprintf("the LOG %d up to %d", k, n); n < len(journal.Leaf(leaves[0])) {
				corrupt(t, what, x.log[:n])
			} else {
				likeSpoilt(t, what, x, x.log[:n])
			}
		}
	}
}

func num(n int64) pouch.Value { return pouch.Value{Kind: pouch.Num, N: n} }

func str(s string) pouch.Value { return pouch.Value{Kind: pouch.Str, S: s} }

func list(l ...pouch.Value) pouch.Value { return pouch.Value{Kind: pouch.List, L: l} }

// others are values that are like v, but for a part.
func others(v pouch.Value) []pouch.Value {
	l := []pouch.Value{num(0), str(""), str("1"), list(), list(num(1)), list(v)}
	if v.Kind == pouch.Num {
		for _, n := range []int64{-1, 1, 2, 3, 5, 6, v.N - 1, v.N + 1, -v.N, v.N + 1<<32, v.N + 256, top, top + 1, math.MaxInt64, math.MinInt64} {
			l = append(l, num(n))
		}
		l = append(l, str(fmt.Sprint(v.N)))
	}
	if v.Kind == pouch.Str {
		l = append(l, str(v.S+"0"), str(" "+v.S), list(str(v.S)))
	}
	for k, x := range v.L {
		l = append(l, list(v.L[:k]...), list(slices.Concat(v.L[:k], v.L[k+1:])...), list(slices.Concat(v.L[:k+1], v.L[k:])...))
		if k > 0 {
			y := slices.Clone(v.L)
			y[k-1], y[k] = y[k], y[k-1]
			l = append(l, list(y...))
		}
		for _, x := range others(x) {
			y := slices.Clone(v.L)
			y[k] = x
			l = append(l, list(y...))
		}
	}
	return l
}

// turned are texts that are like s, but for a byte, or for a part, where s is a value's text.
func turned(s string) []string {
	l := []string{s + "x", s + " ", s + "0", s + "1:0#", s + s, "x" + s, " " + s}
	for at := range s {
		l = append(l, s[:at]+s[at+1:], s[:at]+s[at:at+1]+s[at:], s[:at], s[at+1:], s[:at]+" "+s[at:], s[:at]+"0"+s[at:])
		for x := range 256 {
			l = append(l, s[:at]+string([]byte{byte(x)})+s[at+1:])
		}
	}
	if v, err := pouch.All(s); err == api.OK {
		for _, x := range others(v) {
			l = append(l, pouch.Put(x))
		}
	}
	return slices.DeleteFunc(l, func(x string) bool { return x == s || x == "" })
}

// next are the rosters that a chief may have behind r, by the chapter's words.
func next(r api.Roster) []api.Roster {
	l := []api.Roster{}
	if r.New != 0 {
		l = append(l, of(r.Epoch, 0, r.L...))
	}
	for n := 1; n <= 5; n++ {
		x := of(r.Epoch+1, n, slices.Concat(r.L, []int{n})...)
		if slices.Contains(r.L, n) {
			x = of(r.Epoch+1, r.New, without(r.L, n)...)
		} else if r.New != 0 {
			continue
		}
		if n == r.New {
			x.New = 0
		}
		if len(x.L) > 0 && x.L[0] != x.New {
			l = append(l, x)
		}
	}
	return l
}

// logOf is a LOG with these leaves.
func logOf(leaves ...string) string {
	log := ""
	for _, s := range leaves {
		log += journal.Leaf(s)
	}
	return log
}

// Texts that are whole, and marked, are taken just where a chief writes them, which tells one roster in one way.
func TestTextsOfNoChief(t *testing.T) {
	t.Parallel()
	count := map[bool]int{}
	seen := map[string]string{}
	take := func(ahead string, may func(r api.Roster) bool, text string) {
		c, err := chief.Open(written(t, map[string]string{"LOG": ahead + journal.Leaf(text)}), of(5, 0, 4), 50)
		count[err == api.OK]++
		if err != api.OK {
			if c != nil || err != api.ErrCorrupt {
				t.Fatalf("P10.1: Open, %q behind %q: error %d", text, ahead, err)
			}
			return
		}
		if other, ok := seen[outline(c)]; ok && other != text {
			t.Fatalf("P10.1: Open: %q and %q are both %s", other, text, told(c))
		}
		seen[outline(c)] = text
		if !may(c.Roster()) {
			t.Fatalf("P10.1: Open: %s, behind %q", told(c), ahead)
		}
	}
	for _, x := range lasting(t)[:9] {
		leaves, _ := leavesOf(t, x.log)
		text := leaves[len(leaves)-1]
		ahead := logOf(leaves[:len(leaves)-1]...)
		seen[x.rosters[len(leaves)-1]] = text
		may := func(r api.Roster) bool { return r.New == 0 }
		if len(leaves) > 2 {
			was := open(t, written(t, map[string]string{"LOG": ahead}), api.Roster{}, 0).Roster()
			may = func(r api.Roster) bool {
				return slices.ContainsFunc(next(was), func(x api.Roster) bool { return fmt.Sprint(x) == fmt.Sprint(r) })
			}
		}
		for _, text := range turned(text) {
			take(ahead, may, text)
			take("", func(r api.Roster) bool { return r.New == 0 || r.New == r.L[len(r.L)-1] && len(r.L) > 1 }, text)
		}
	}
	if count[true] < 20 || count[false] < 1000 {
		t.Errorf("so many were taken, or not: %v", count)
	}
}

// textOf is how a chief writes r, of which New is 0.
func textOf(t *testing.T, r api.Roster) string {
	t.Helper()
	leaves, _ := leavesOf(t, journalOf(t, r))
	return leaves[len(leaves)-1]
}

// One roster behind another one is taken just where a chief comes from that one to this.
func TestRostersOfNoChief(t *testing.T) {
	for _, was := range []api.Roster{of(3, 0, 4, 2), of(3, 0, 1), of(3, 0, 1, 2, 3, 4, 5)} {
		var texts []string
		for _, x := range next(was) {
			texts = append(texts, fmt.Sprint(x))
		}
		for _, l := range allOrders() {
			for _, epoch := range []int64{1, 2, 3, 4, 5, 3 + 1<<32, top} {
				is := of(epoch, 0, l...)
				for _, log := range []string{logOf("", textOf(t, was), textOf(t, is)), logOf(textOf(t, was), textOf(t, is))} {
					c, err := chief.Open(written(t, map[string]string{"LOG": log}), of(7, 0, 3), 50)
					if slices.Contains(texts, fmt.Sprint(is)) {
						if err != api.OK || outline(c) != fmt.Sprint(is) {
							t.Errorf("P10.1: Open of %v behind %v: %s, error %d", is, was, told(c), err)
						}
					} else if c != nil || err != api.ErrCorrupt {
						t.Errorf("P10.1: Open of %v behind %v: %s, error %d", is, was, told(c), err)
					}
				}
			}
		}
	}
}

func TestNoChiefs(t *testing.T) {
	l := []string{"x", " ", "0", "0:]", "0:,", "1:0#", "1:1#", "1:x,", "\x00", strings.Repeat("x", 1000), strings.Repeat("0:]", 8)}
	for _, b := range bads()[:9] {
		l = append(l, fmt.Sprint(b.r))
	}
	for _, s := range l {
		corrupt(t, "a state", logOf(s))
		corrupt(t, "a record", logOf("", s))
		corrupt(t, "a state ahead of a record", logOf(s, textOf(t, of(1, 0, 1))))
		corrupt(t, "a record ahead of a record", logOf("", s, textOf(t, of(1, 0, 1))))
		corrupt(t, "a record behind a record", logOf("", textOf(t, of(1, 0, 1)), s))
	}
	d := roll.New(1000)
	c := withNew(t, d, 3, 1, 2)
	silence(t, "full", c, full(2, 2), 2)
	log, _ := d.Read("LOG")
	leaves, _ := leavesOf(t, log)
	first, added, learnt := leaves[1], leaves[2], leaves[3]
	for _, x := range [][]string{
		{"", first, first}, {"", added}, {"", added, learnt}, {"", first, learnt}, {"", first, added, added}, {"", first, added, first}, {"", first, added, learnt, learnt},
		{"", first, added, learnt, added}, {"", first, added, learnt, first}, {"", ""}, {"", "", first}, {"", first, ""}, {first, ""}, {first, first}, {added, first}, {added, added},
		{learnt, learnt}, {learnt, added}, {learnt, first}, {first, learnt}, {"", first, added, learnt, ""}, {"", added, first}, {"", learnt, first, added},
	} {
		corrupt(t, fmt.Sprintf("%q", x), logOf(x...))
	}
	for want, x := range map[string][]string{
		"{1 [3 1] 0}": {first}, "{2 [3 1 2] 2}": {first, added}, "{2 [3 1 2] 0}": {added, learnt},
	} {
		if c := open(t, written(t, map[string]string{"LOG": logOf(x...)}), api.Roster{}, 1); outline(c) != want {
			t.Errorf("P10.1: Open of %q: %s, not %s", x, told(c), want)
		}
	}
	corrupt(t, "a LOG without a leaf", "")
	corrupt(t, "no journal", "some text")
}
