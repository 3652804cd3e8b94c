package shelf_test

import (
	"fmt"
	"strings"
	"testing"

	"armarium/api"
	"armarium/roll"
	"armarium/shelf"
)

// needs are how much room each call of story needs (0: it writes nothing), and with how much there is enough for all.
func needs(t *testing.T) ([]int, int) {
	t.Helper()
	x := roomy(t, "needs")
	l, most := []int{}, 0
	for _, c := range story() {
		before, _ := x.c.Read("LOG")
		c.do(x)
		after, _ := x.c.Read("LOG")
		text, ok := strings.CutPrefix(after, before)
		// Where all is laid anew, the old LOG is there until then.
		if !ok || c.what == "Pack" {
			text = after
		}
		l, most = append(l, len(text)), max(most, len(before)+len(text))
	}
	return l, most
}

// goesFull does the calls of story from the k-th on, and asks that the first one for which there is no room takes the
// shelf down, that nothing is done from then on, and that what was done is there when it is opened anew. It answers
// which call that was, -1 if none.
func goesFull(x *both, k int, needs []int) int {
	x.t.Helper()
	full := -1
	for ; k < len(needs); k++ {
		if full < 0 && needs[k] > x.c.Room() {
			full, x.m.down = k, true
		}
		was := rolls(x.c)
		story()[k].do(x)
		if full >= 0 && rolls(x.c) != was {
			x.t.Fatalf("P8.2: %s: %s of what is Down turns the rolls", x.what, story()[k].what)
		}
	}
	if full < 0 {
		return full
	}
	refuses(x.t, x.what, x.s)
	x.m.down = false
	for range 2 {
		x.fall("opened anew", x.c)
		if needs[full] > x.c.Room() && x.m.is(x.lasts[len(x.lasts)-1]) {
			x.m.down = true
			story()[full].do(x)
			x.m.down = false
		}
	}
	x.fall("opened anew behind a fall", x.c.Tear(full))
	return full
}

// Chests with room of each size, up to where there is enough for all.
func TestRooms(t *testing.T) {
	t.Parallel()
	needs, most := needs(t)
	found := map[int]int{}
	for room := range most + 1 {
		if s, err := shelf.Open(roll.New(room)); err != api.OK {
			if s != nil || err != api.ErrDown || room >= 30 {
				t.Fatalf("P8.2: Open with room for %d: error %d", room, err)
			}
			found[-2]++
			continue
		}
		x := begin(t, fmt.Sprint("room for ", room), room)
		x.light = true
		found[goesFull(x, 0, needs)]++
	}
	if found[-1] != 1 || found[-2] == 0 || len(found) < 10 {
		t.Errorf("so many chests were full at each call: %v", found)
	}
}

// Chests that are filled ahead of each call that writes: where there is room for all of it, it is done.
func TestFilled(t *testing.T) {
	t.Parallel()
	needs, most := needs(t)
	for k, need := range needs {
		for _, room := range []int{0, 1, need / 2, need - 1, need} {
			if need == 0 {
				continue
			}
			x := begin(t, fmt.Sprintf("filled ahead of the call %d, but for %d", k, room), most)
			for _, c := range story()[:k] {
				c.do(x)
			}
			if err := x.c.Write("FILL", xs(x.c.Room()-room)); err != api.OK {
				t.Fatalf("Write: error %d", err)
			}
			if full := goesFull(x, k, needs); (full == k) != (room < need) {
				t.Errorf("P8.2: %s: the call %d was full", x.what, full)
			}
		}
	}
}
