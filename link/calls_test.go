package link_test

import (
	"fmt"
	"math"
	"testing"

	"armarium/api"
)

func beat(from int, e int64) api.Word { return api.Word{Kind: api.WBeat, From: from, Epoch: e} }

func TestTick(t *testing.T) {
	for _, x := range []struct {
		what  string
		waits []int
		says  func(all int) []api.Word
	}{
		{"the head", []int{1, 6, 7, 60}, func(all int) []api.Word { return []api.Word{pass(3, 1, 4, deeds(4, min(6, all-4))...)} }},
		{"the head", []int{0}, func(int) []api.Word { return nil }},
		{"the middle", []int{1, 6, 7, 60}, func(all int) []api.Word { return []api.Word{pass(1, 4, 4, deeds(4, min(6, all-4))...)} }},
		{"the middle", []int{0}, func(int) []api.Word { return nil }},
		{"the tail", []int{0, 1, 60}, func(all int) []api.Word { return []api.Word{ack(4, 1, int64(all))} }},
		{"alone", []int{0, 1, 60}, func(int) []api.Word { return nil }},
		{"the head of two", []int{1, 9}, func(all int) []api.Word { return []api.Word{pass(3, 4, 4, deeds(4, min(6, all-4))...)} }},
		{"ahead of the new one", []int{1, 9}, func(all int) []api.Word { return []api.Word{pass(1, 5, 4, deeds(4, min(6, all-4))...)} }},
		{"far ahead of the new one", []int{1, 9}, func(all int) []api.Word { return []api.Word{pass(3, 1, 4, deeds(4, min(6, all-4))...)} }},
		{"the new one", []int{0, 1, 60}, func(int) []api.Word { return []api.Word{need(5, 1, 0, 1)} }},
		{"the new one that has learnt", []int{0, 1, 9}, func(all int) []api.Word { return []api.Word{ack(5, 1, int64(all))} }},
		{"of no roster", []int{0, 1, 60}, func(int) []api.Word { return nil }},
	} {
		for _, p := range places(t) {
			for _, waits := range x.waits {
				if p.what != x.what {
					continue
				}
				r := p.make(4, waits)
				want := r.known()
				what := fmt.Sprintf("%s, %d wait: Tick", x.what, waits)
				for _, now := range []int64{0, 1, until, until, until + 1, top, math.MaxInt64, 3} {
					said := []api.Word{beat(r.id, want.Roster.Epoch)}
					if now <= until {
						said = append(said, x.says(4+waits)...)
					}
					says(t, fmt.Sprint(what, " at ", now), r.Tick(now), said...)
				}
				knows(t, what, r, want)
				has(t, what, r)
				// With its shelf of another epoch it is not Active.
				r.Shelf().Enter(epoch + 1)
				said := []api.Word{beat(r.id, want.Roster.Epoch)}
				if x.what == "the new one" {
					said = append(said, x.says(4+waits)...)
				}
				says(t, what+", the shelf of another epoch", r.Tick(1), said...)
				down(t, r)
				for _, now := range []int64{0, until, until + 1} {
					says(t, what+", down", r.Tick(now))
				}
			}
		}
	}
}

func TestWriteCall(t *testing.T) {
	for _, p := range places(t) {
		for _, now := range []int64{0, until, until + 1, top} {
			for _, d := range []api.Deed{others(1)[0], nth(4), nth(5), put("a", "", req(p.make(0, 0).id, 9))} {
				r := p.make(2, 0)
				want := r.known()
				said := []api.Word{}
				if l := want.Roster.L; len(l) > 0 && l[0] != r.id {
					said = append(said, api.Word{Kind: api.WWrite, From: r.id, To: l[0], Epoch: epoch, Deeds: []api.Deed{d}})
				} else if len(l) > 1 && now <= until {
					// To itself: what comes of it stands in its place.
					want = want.add(d)
					said = append(said, pass(3, l[1], 2, d))
				} else if len(l) == 1 && now <= until {
					k, results := want.add(d).commit(1)
					want = k
					said = append(said, done(2, d, results[0]))
				}
				other, own := splits(r.id, said)
				says(t, p.what+": Write", r.Write(d, now), other...)
				knows(t, p.what+": Write", r, want)
				has(t, p.what+": Write", r, own...)
			}
		}
	}
}

func TestWriteCallOfWhatMayNotBe(t *testing.T) {
	for _, p := range places(t) {
		r := p.make(2, 0)
		was := r.known()
		good := put("a", "", req(1, 1))
		for k, set := range []func(d *api.Deed){
			func(d *api.Deed) { *d = api.Deed{} }, func(d *api.Deed) { d.Kind = 0 }, func(d *api.Deed) { d.Kind = 4 }, func(d *api.Deed) { d.Key = "" }, func(d *api.Deed) { d.Key = "Key" },
			func(d *api.Deed) { d.Body = string(make([]byte, 301)) }, func(d *api.Deed) { d.Ver = 1 }, func(d *api.Deed) { d.Cond = 3 }, func(d *api.Deed) { d.Tag = "00000000" },
			func(d *api.Deed) { d.Req = 0 }, func(d *api.Deed) { d.Req = base }, func(d *api.Deed) { d.Req = -1 }, func(d *api.Deed) { d.Low = d.Req + 1 }, func(d *api.Deed) { d.Low = -1 },
		} {
			d := good
			set(&d)
			for _, now := range []int64{0, until, until + 1} {
				says(t, fmt.Sprint(p.what, ": Write of what may not be: ", k), r.Write(d, now))
			}
		}
		knows(t, p.what+": Write of what may not be", r, was)
		has(t, p.what+": Write of what may not be", r)
	}
}

func TestAskCall(t *testing.T) {
	for _, p := range places(t) {
		r := p.make(4, 3)
		want := r.known()
		for _, now := range []int64{0, until, until + 1, top} {
			for _, n := range append(reqs(), -1, top+1, math.MaxInt64, math.MinInt64, req(r.id, 1)) {
				said, own := []api.Word{}, []api.Word{}
				l := want.Roster.L
				if len(l) > 0 && l[len(l)-1] != r.id {
					said = append(said, ask(r.id, l[len(l)-1], n))
				} else if len(l) > 0 && now <= until && p.what != "the new one" {
					own = append(own, told(r.id, r.id, n, want.Book.Seq))
				}
				says(t, fmt.Sprint(p.what, ": Ask at ", now), r.Ask(n, now), said...)
				has(t, fmt.Sprint(p.what, ": Ask at ", now), r, own...)
			}
		}
		knows(t, p.what+": Ask", r, want)
	}
}

// Whether it is Active is asked of nobody who sends to another one.
func TestCallsDown(t *testing.T) {
	d := put("a", "", req(1, 7))
	for _, p := range places(t) {
		for _, isDown := range []bool{false, true} {
			r := p.make(4, 3)
			if isDown {
				down(t, r)
			} else {
				r.Shelf().Enter(epoch + 1)
			}
			want := r.known()
			l := want.Roster.L
			writes, asks := []api.Word{}, []api.Word{}
			if len(l) > 0 && l[0] != r.id {
				writes = append(writes, api.Word{Kind: api.WWrite, From: r.id, To: l[0], Epoch: epoch, Deeds: []api.Deed{d}})
			}
			if len(l) > 0 && l[len(l)-1] != r.id {
				asks = append(asks, ask(r.id, l[len(l)-1], 5))
			}
			says(t, p.what+": Write, not Active", r.Write(d, 1), writes...)
			says(t, p.what+": Ask, not Active", r.Ask(5, 1), asks...)
			if r.Ready("", 1) || r.Ready("none", 1) || r.Active(1) {
				t.Errorf("P13.2: %s: Ready, not Active", p.what)
			}
			knows(t, p.what+": not Active", r, want)
			has(t, p.what+": not Active", r)
		}
	}
}

func TestReady(t *testing.T) {
	for _, p := range places(t) {
		for _, waits := range []int{0, 1, 6} {
			r := p.make(4, waits)
			stands := p.what != "of no roster" && p.what != "the new one"
			was := r.known()
			keys := map[string]bool{}
			for _, d := range r.Shelf().Pend() {
				keys[d.Key] = true
			}
			for _, now := range []int64{0, 1, until, until + 1, top} {
				for _, key := range []string{"", "k1", "k2", "k3", "k4", "k5", "k6", "k7", "k8", "k9", "k10", "k", "none", "No Key", "k5 ", "K5", "K6"} {
					waits := keys[key] || key == "" && len(keys) > 0
					if r.Ready(key, now) != (stands && now <= until && !waits) {
						t.Errorf("P13.2: %s, %v wait: Ready(%q, %d) is %v", p.what, keys, key, now, r.Ready(key, now))
					}
				}
			}
			knows(t, p.what+": Ready", r, was)
		}
	}
	// A key is Ready again once its last deed is committed.
	r := placed(made(t, 3, 0, 0), 0, 3, 1)
	for n := range int64(3) {
		r.Write(put([]string{"a", "b", "a"}[n], "", req(3, n+1)), 1)
	}
	for n, want := range []string{"false false false", "false false false", "false true false", "true true true"} {
		r.Step(ack(1, 3, int64(n)), 1)
		if got := fmt.Sprint(r.Ready("a", 1), r.Ready("b", 1), r.Ready("", 1)); got != want {
			t.Errorf("P13.2: %d are committed: Ready %s, not %s", n, got, want)
		}
	}
}
