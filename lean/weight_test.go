package lean_test

import (
	"strings"
	"testing"

	"armarium/lean"
)

func TestWeight(t *testing.T) {
	for _, x := range weigh(many()) {
		for n := 1; n <= 5; n++ {
			w := lean.Weight(n, x.key)
			if w != x.of[n] || w < 0 || w >= prime {
				t.Errorf("P14.1: Weight(%d, %.40q): %d, not %d", n, x.key, w, x.of[n])
			}
		}
	}
}

// TestWeightByHand has what was reckoned by pencil: (2+i)^7 is -278-29i, (2+i)^14 is 76443+16124i.
func TestWeightByHand(t *testing.T) {
	for _, x := range []struct {
		n    int
		key  string
		want int
	}{
		{1, "", 29}, {2, "", 65521 - 16124},
		{1, "a", 65521 - 25767}, // the mark is 93+3i
		{1, "\x00", 1199},       // the mark is -4+3i
		{1, "\xff", 65521*2 - 69691},
	} {
		if w := lean.Weight(x.n, x.key); w != x.want {
			t.Errorf("P14.1: Weight(%d, %q): %d, not %d", x.n, x.key, w, x.want)
		}
	}
}

func TestWeightAtItsEdges(t *testing.T) {
	for _, x := range edges() {
		if w := lean.Weight(x.n, x.key); w != x.want {
			t.Errorf("P14.1: Weight(%d, %q): %d, not %d", x.n, x.key, w, x.want)
		}
	}
	for n := 1; n <= 5; n++ {
		if w := lean.Weight(n, level); w != 0 {
			t.Errorf("P14.1: Weight(%d) of a key of the mark 0: %d", n, w)
		}
	}
}

func TestWeightOfNoNode(t *testing.T) {
	for _, n := range strangers() {
		for _, key := range few() {
			if w := lean.Weight(n, key); w != -1 {
				t.Errorf("P14.1: Weight(%d, %.40q): %d, not -1", n, key, w)
			}
		}
	}
}

func TestWeightOfALongKey(t *testing.T) {
	for _, key := range []string{strings.Repeat("\x00", 1<<20), strings.Repeat("\xff", 1<<20), strings.Repeat("1,048,577 bytes ", 1<<16) + "."} {
		for n := 1; n <= 5; n++ {
			if w := lean.Weight(n, key); w != reckon(n, key) {
				t.Errorf("P14.1: Weight(%d) of %d bytes: %d, not %d", n, len(key), w, reckon(n, key))
			}
		}
		if w := lean.Weight(6, key); w != -1 {
			t.Errorf("P14.1: Weight(6) of %d bytes: %d, not -1", len(key), w)
		}
	}
}

// TestWeightAgain asks each weight once more, behind others.
func TestWeightAgain(t *testing.T) {
	for _, n := range []int{5, 0, 3, 1, -1, 4, 2, 6} {
		for _, x := range weigh(many()) {
			if w := lean.Weight(n, x.key); w != x.weight(n) || lean.Weight(n, strings.Clone(x.key)) != w {
				t.Errorf("P0.5: Weight(%d, %.40q): %d, not %d", n, x.key, w, x.weight(n))
			}
		}
	}
}
