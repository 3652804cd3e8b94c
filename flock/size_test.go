package flock_test

import (
	"slices"
	"testing"

	"armarium/api"
	"armarium/flock"
	"armarium/word"
)

// unlike are words of very unlike lengths, no two of one length next to one another.
func unlike(n int) []api.Word {
	l := []api.Word{}
	for k := range n {
		w := beat(k)
		switch k % 6 {
		case 1:
			w = longest()
		case 2:
			w.Deeds = deeds(k % 61)
		case 3:
			w = some()
		case 4:
			w.State.L = longest().State.L[:k%41]
			w.State.Seq = top
		case 5:
			w.Until, w.Seq, w.Req = top, int64(k), top
		}
		l = append(l, w)
	}
	return l
}

// Size is that of the texts that word writes, behind each Say and each Pull.
func TestSize(t *testing.T) {
	l := unlike(60)
	f, bytes := flock.New(), 0
	counts(t, "none", f, 0, 0)
	for k, w := range l {
		bytes += len(word.Put(w))
		says(t, "one more", f, w)
		counts(t, "one more", f, k+1, bytes)
	}
	for n := 0; len(l) > 0; n++ {
		k := (n * 31) % len(l)
		bytes -= len(word.Put(l[k]))
		pulls(t, "one less", f, k, l[k])
		l = slices.Delete(l, k, k+1)
		counts(t, "one less", f, len(l), bytes)
	}
	counts(t, "all gone", f, 0, 0)
}

// As many as may be of the longest words.
func TestSizeOfTheLongest(t *testing.T) {
	t.Parallel()
	f, w := flock.New(), longest()
	bytes := len(word.Put(w))
	for k := range most {
		says(t, "the longest", f, w)
		counts(t, "the longest", f, k+1, (k+1)*bytes)
	}
	refuses(t, "the 301st of the longest", f, w)
	refuses(t, "the 301st, a short one", f, beat(1))
	for k := range most {
		pulls(t, "the longest", f, most-1-k, w)
	}
	counts(t, "all gone", f, 0, 0)
}
