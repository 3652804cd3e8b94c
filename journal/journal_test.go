package journal

import (
	"fmt"
	"slices"
	"strings"
	"testing"

	"armarium/api"
	"armarium/roll"
)

// leavesOf are the leaves of these, one behind the other.
func leavesOf(l ...string) string {
	s := ""
	for _, x := range l {
		s += leafOf(x)
	}
	return s
}

// chestTold is all that a chest tells: each roll, with a bar behind what is pressed, and the room.
func chestTold(c *roll.Chest) string {
	s := ""
	for _, name := range c.Names() {
		text, _ := c.Read(name)
		s += fmt.Sprintf("%s:%q|%q ", name, text[:c.Pressed(name)], text[c.Pressed(name):])
	}
	return s + fmt.Sprint(c.Room())
}

// written is a chest with these on its rolls, all pressed, and with room for so many bytes more.
func written(t *testing.T, room int, rolls map[string]string) *roll.Chest {
	t.Helper()
	for _, s := range rolls {
		room += len(s)
	}
	c := roll.New(room)
	for name, s := range rolls {
		fine(t, c.Write(name, s), c.Press(name))
	}
	return c
}

// answers asks for an error.
func answers(t *testing.T, what string, got, want api.Errno) {
	t.Helper()
	if got != want {
		t.Errorf("%s: error %d, not %d", what, got, want)
	}
}

// fine does what may not fail.
func fine(t *testing.T, l ...api.Errno) {
	t.Helper()
	for k, err := range l {
		if err != api.OK {
			t.Fatalf("the step %d: error %d", k, err)
		}
	}
}

// opened opens what may be opened.
func opened(t *testing.T, what string, c *roll.Chest) *Journal {
	t.Helper()
	j, err := Open(c)
	if err != api.OK || j == nil {
		t.Fatalf("%s: Open: error %d", what, err)
	}
	return j
}

// refused asks that Open answers an error, and no journal.
func refused(t *testing.T, what string, c *roll.Chest, want api.Errno) {
	t.Helper()
	if j, err := Open(c); j != nil || err != want {
		t.Errorf("%s: Open: error %d, not %d", what, err, want)
	}
}

// tellsOf asks what a journal tells.
func tellsOf(t *testing.T, what string, j *Journal, l ...string) {
	t.Helper()
	got := append([]string{j.First()}, j.Records()...)
	if !slices.Equal(got, l) {
		t.Errorf("%s: First and Records %.300q, not %.300q", what, got, l)
	}
	if j.Long() != len(leavesOf(l...)) {
		t.Errorf("%s: Long %d, not %d", what, j.Long(), len(leavesOf(l...)))
	}
}

// holds asks what a journal tells, and that LOG has just that.
func holds(t *testing.T, what string, c *roll.Chest, j *Journal, l ...string) {
	t.Helper()
	tellsOf(t, what, j, l...)
	if s, ok := c.Read("LOG"); s != leavesOf(l...) || !ok {
		t.Errorf("%s: LOG has %.300q, not %.300q", what, s, leavesOf(l...))
	}
}

// isDown asks for ErrDown at each call, and that none of them does a thing.
func isDown(t *testing.T, what string, c *roll.Chest, j *Journal) {
	t.Helper()
	rolls, first, records, long := chestTold(c), j.First(), j.Records(), j.Long()
	for range 2 {
		for _, s := range []string{"", "x", xs(400000), xs(400001)} {
			answers(t, what+": Add to what is down", j.Add(s, true), api.ErrDown)
			answers(t, what+": Add to what is down, loose", j.Add(s, false), api.ErrDown)
			answers(t, what+": Lay of what is down", j.Lay(s), api.ErrDown)
		}
		answers(t, what+": Press of what is down", j.Press(), api.ErrDown)
	}
	if chestTold(c) != rolls || j.First() != first || !slices.Equal(j.Records(), records) || j.Long() != long {
		t.Errorf("%s: a call to what is down has done something", what)
	}
}

func TestNewJournal(t *testing.T) {
	for _, room := range []int{11, 12, 1000, 1 << 20} {
		c := roll.New(room)
		j := opened(t, "P4.1: no LOG", c)
		holds(t, "P4.1: no LOG", c, j, "")
		was := fmt.Sprintf(`LOG:"000000010:,"|"" %d`, room-11)
		if chestTold(c) != was {
			t.Errorf("P4.1: no LOG: %s", chestTold(c))
		}
		holds(t, "P4.1: opened again", c, opened(t, "P4.1: opened again", c), "")
		for _, n := range []int{-1, 0, 1, 5, 11} {
			d := c.Tear(n)
			holds(t, "P4.1: torn and opened", d, opened(t, "P4.1: torn and opened", d), "")
		}
		if chestTold(c) != was {
			t.Errorf("P4.1: opened again: %s", chestTold(c))
		}
	}
}

// Other rolls are nothing to a journal.
func TestOtherRolls(t *testing.T) {
	c := written(t, 100, map[string]string{"OLD": leafOf("elder"), "LOGS": leafOf("x"), "NEWS": "y", "REQ": "", "A": leavesOf("a", "b")})
	j := opened(t, "P4.1: other rolls", c)
	fine(t, j.Add("one", false), j.Press(), j.Lay("s"), j.Add("two", true))
	holds(t, "P4.1: other rolls", c, j, "s", "two")
	want := chestTold(written(t, 100-len(leavesOf("s", "two")), map[string]string{"OLD": leafOf("elder"), "LOGS": leafOf("x"), "NEWS": "y", "REQ": "", "A": leavesOf("a", "b"), "LOG": leavesOf("s", "two")}))
	if got := chestTold(c); got != want {
		t.Errorf("P4.1: other rolls: %s, not %s", got, want)
	}
}

func TestAdd(t *testing.T) {
	c := roll.New(5000)
	j, l := opened(t, "P4.1", c), []string{""}
	pressed := 11
	for k, s := range short() {
		press := k%3 == 0
		answers(t, "P4.1: Add", j.Add(s, press), api.OK)
		l = append(l, s)
		if press {
			pressed = len(leavesOf(l...))
		}
		holds(t, "P4.1: Add", c, j, l...)
		if c.Pressed("LOG") != pressed || c.Room() != 5000-len(leavesOf(l...)) || len(c.Names()) != 1 {
			t.Errorf("P4.1: Add: %d pressed, not %d; room for %d", c.Pressed("LOG"), pressed, c.Room())
		}
		holds(t, "P4.1: opened again", c, opened(t, "P4.1: opened again", c), l...)
	}
	holds(t, "P4.1: opened at the end", c, opened(t, "P4.1: opened at the end", c), l...)
}

func TestPress(t *testing.T) {
	c := roll.New(1000)
	j := opened(t, "P4.1", c)
	fine(t, j.Press())
	l := []string{""}
	for _, s := range []string{"one", "", "three"} {
		fine(t, j.Add(s, false), j.Add(s+"'", false))
		if c.Pressed("LOG") != len(leavesOf(l...)) {
			t.Errorf("P4.1: Add, not pressed: %d", c.Pressed("LOG"))
		}
		l = append(l, s, s+"'")
		answers(t, "P4.1: Press", j.Press(), api.OK)
		answers(t, "P4.1: Press again", j.Press(), api.OK)
		holds(t, "P4.1: Press", c, j, l...)
		if c.Pressed("LOG") != len(leavesOf(l...)) {
			t.Errorf("P4.1: Press: %d", c.Pressed("LOG"))
		}
		d := c.Tear(0)
		holds(t, "P4.1: Press, torn and opened", d, opened(t, "P4.1", d), l...)
	}
}

func TestLay(t *testing.T) {
	for _, s := range short() {
		c := roll.New(2000)
		j := opened(t, "P4.1", c)
		fine(t, j.Lay(s))
		holds(t, "P4.1: Lay of a new one", c, j, s)
		fine(t, j.Add("one", false), j.Add("two", true), j.Add("loose", false))
		holds(t, "P4.1: Add behind Lay", c, j, s, "one", "two", "loose")
		fine(t, j.Lay("state "+s))
		holds(t, "P4.1: Lay", c, j, "state "+s)
		if want := fmt.Sprintf(`LOG:%q|"" %d`, leafOf("state "+s), 2000-len(leafOf("state "+s))); chestTold(c) != want {
			t.Errorf("P4.1: Lay: %s, not %s", chestTold(c), want)
		}
		for n := range 30 {
			d := c.Tear(n)
			holds(t, "P4.1: Lay, torn and opened", d, opened(t, "P4.1", d), "state "+s)
		}
		fine(t, j.Add("z", true))
		holds(t, "P4.1: Add behind Lay", c, j, "state "+s, "z")
		holds(t, "P4.1: Lay, opened again", c, opened(t, "P4.1", c), "state "+s, "z")
	}
}

func TestTooLong(t *testing.T) {
	c := roll.New(1000)
	j := opened(t, "P4.1", c)
	fine(t, j.Add("one", true), j.Add("loose", false))
	was := chestTold(c)
	for _, n := range []int{400001, 400002, 1 << 20, 1<<20 + 1, 10000000} {
		answers(t, "P4.1: Add of too much", j.Add(xs(n), true), api.ErrForm)
		answers(t, "P4.1: Add of too much, loose", j.Add(xs(n), false), api.ErrForm)
		answers(t, "P4.1: Lay of too much", j.Lay(xs(n)), api.ErrForm)
	}
	holds(t, "P4.1: too long", c, j, "", "one", "loose")
	if chestTold(c) != was {
		t.Errorf("P4.1: too long: %s", chestTold(c))
	}
	fine(t, j.Add("two", true), j.Press(), j.Lay("s"), j.Add("three", false))
	holds(t, "P4.1: too long leaves it up", c, j, "s", "three")
}

func TestLongest(t *testing.T) {
	c := roll.New(1 << 20)
	j := opened(t, "P4.1", c)
	long := xs(400000)
	fine(t, j.Lay(long), j.Add(long, true))
	holds(t, "P4.1: 400,000 bytes", c, j, long, long)
	holds(t, "P4.1: 400,000 bytes, opened again", c, opened(t, "P4.1", c), long, long)
	answers(t, "P4.1: Lay of 400,000 bytes, no room beside LOG", j.Lay(long), api.ErrFull)
	isDown(t, "P4.1: Lay", c, j)
	holds(t, "P4.1: Lay that failed", c, opened(t, "P4.1", c), long, long)
}

// A LOG that Open refuses is left as it is, and so is the next time it is opened.
func stays(t *testing.T, what, log string) {
	t.Helper()
	c := written(t, 50, map[string]string{"LOG": log})
	was := chestTold(c)
	for range 2 {
		refused(t, what, c, api.ErrCorrupt)
		if chestTold(c) != was {
			t.Errorf("%s: it was %.200s, and is %.200s", what, was, chestTold(c))
		}
	}
}

func TestOpenOfNoWholeLeaf(t *testing.T) {
	stays(t, "P4.1: an empty LOG", "")
	for _, s := range short() {
		l := leafOf(s)
		for n := range l {
			stays(t, "P4.1: no whole leaf", l[:n])
		}
	}
	for _, s := range []string{"x", "fff1", "00000001", "00000001:", "000000010:]", "000000010:,"[1:], "00000000" + "0:,", "\x00"} {
		stays(t, "P4.1: no leaf", s)
	}
	c := roll.New(20)
	fine(t, c.Write("LOG", ""))
	refused(t, "P4.1: an empty LOG that is loose", c, api.ErrCorrupt)
}

func TestOpenOfTornEnd(t *testing.T) {
	for _, whole := range [][]string{{""}, {"state"}, {"state", "one"}, {"", "one", "", "three"}} {
		ahead := leavesOf(whole...)
		for _, s := range short() {
			l := leafOf(s)
			for n := range l {
				if n > 40 && n < len(l)-3 {
					continue
				}
				c := written(t, 50, map[string]string{"LOG": ahead + l[:n]})
				j := opened(t, "P4.1: a torn end", c)
				holds(t, "P4.1: a torn end", c, j, whole...)
				if c.Room() != 50+n || c.Pressed("LOG") != len(ahead) {
					t.Errorf("P4.1: a torn end of %d bytes: %d pressed, room for %d", n, c.Pressed("LOG"), c.Room())
				}
				fine(t, j.Add("on", true))
				d := c.Tear(0)
				holds(t, "P4.1: a torn end, and written on", d, opened(t, "P4.1: a torn end, and written on", d), append(slices.Clip(whole), "on")...)
			}
		}
	}
	c := written(t, 50, map[string]string{"LOG": leafOf("") + "00000001999:" + leafOf("a")})
	holds(t, "P4.1: a torn end by its length", c, opened(t, "P4.1: a torn end by its length", c), "")
}

// What is loose stays loose, and is cut where it is torn.
func TestOpenOfLooseEnd(t *testing.T) {
	c := written(t, 100, map[string]string{"LOG": leavesOf("s", "one")})
	fine(t, c.Write("LOG", leafOf("two")+leafOf("three")[:9]))
	j := opened(t, "P4.1: a loose end", c)
	holds(t, "P4.1: a loose end", c, j, "s", "one", "two")
	if c.Pressed("LOG") != len(leavesOf("s", "one")) {
		t.Errorf("P4.1: a loose end: %d pressed", c.Pressed("LOG"))
	}
	d := c.Tear(0)
	holds(t, "P4.1: a loose end, torn off", d, opened(t, "P4.1", d), "s", "one")
	fine(t, j.Press())
	d = c.Tear(0)
	holds(t, "P4.1: a loose end, pressed", d, opened(t, "P4.1", d), "s", "one", "two")
}

// A LOG without a torn end is not Cut: that would make an empty roll of one that was never pressed.
func TestOpenDoesNotCut(t *testing.T) {
	c := roll.New(100)
	fine(t, c.Write("LOG", leavesOf("s", "one")))
	holds(t, "P4.1: a loose LOG", c, opened(t, "P4.1: a loose LOG", c), "s", "one")
	d := c.Tear(0)
	holds(t, "P4.1: a loose LOG that is gone", d, opened(t, "P4.1: a loose LOG that is gone", d), "")
}

func TestOpenOfSpoiltEnd(t *testing.T) {
	for _, whole := range []string{leafOf(""), leavesOf("state", "one", "")} {
		for _, end := range []string{"x", "\x00", ",", "fff1", "FFF0", "00000001x", "00000001:", "0000000100:,", "0000000110000000:", "000000000:,", "000000010:]", "000000010:#", digitsOf("5") + "1:5#", "0000000g", " "} {
			stays(t, "P4.1: a spoilt end", whole+end)
			stays(t, "P4.1: a spoilt leaf in between", whole+end+leafOf("x"))
		}
		for _, s := range []string{"", "a", "a longer one"} {
			l := leafOf(s)
			for n := range 8 {
				b := []byte(l)
				b[n] ^= 1
				stays(t, "P4.1: a leaf whose mark was changed", whole+string(b))
				stays(t, "P4.1: a leaf whose mark was changed, in between", whole+string(b)+leafOf("x"))
				stays(t, "P4.1: a first leaf whose mark was changed", string(b)+whole)
			}
		}
		stays(t, "P4.1: a torn leaf in between", whole+leafOf("abc")[:11]+leafOf("x"))
	}
}

func TestOpenOfNew(t *testing.T) {
	for _, s := range []string{"", "half of a leaf", leafOf("unread"), leafOf("unread")[:10], leavesOf("unread", "one")} {
		for _, rolls := range []map[string]string{{}, {"OLD": "elder"}, {"OLD": ""}} {
			rolls["NEW"] = s
			c := written(t, 40, rolls)
			holds(t, "P4.1: NEW, no LOG", c, opened(t, "P4.1: NEW, no LOG", c), "")
			if want := fmt.Sprintf(`LOG:"000000010:,"|"" OLD:%q|"" %d`, s, 29+len(rolls["OLD"])); chestTold(c) != want {
				t.Errorf("P4.1: NEW, no LOG: %s, not %s", chestTold(c), want)
			}
			rolls["LOG"] = leavesOf("s", "one")
			c = written(t, 40, rolls)
			j := opened(t, "P4.1: NEW and LOG", c)
			holds(t, "P4.1: NEW and LOG", c, j, "s", "one")
			if want := fmt.Sprintf(`LOG:%q|"" OLD:%q|"" %d`, rolls["LOG"], s, 40+len(rolls["OLD"])); chestTold(c) != want {
				t.Errorf("P4.1: NEW and LOG: %s, not %s", chestTold(c), want)
			}
			fine(t, j.Lay("anew"), j.Add("two", true))
			holds(t, "P4.1: NEW, and Lay", c, j, "anew", "two")
			if want := fmt.Sprintf(`LOG:%q|"" OLD:%q|"" `, leavesOf("anew", "two"), s); !strings.HasPrefix(chestTold(c), want) {
				t.Errorf("P4.1: NEW, and Lay: %s, not %s", chestTold(c), want)
			}
			holds(t, "P4.1: NEW, Lay, and opened again", c, opened(t, "P4.1", c), "anew", "two")
		}
	}
	c := written(t, 0, map[string]string{"OLD": "eleven byte", "NEW": ""})
	holds(t, "P4.1: OLD gives room", c, opened(t, "P4.1: OLD gives room", c), "")
}

// Whatever came to be on NEW meanwhile, a state that is laid is First when the chest is opened next.
func TestLayBesideNew(t *testing.T) {
	c := roll.New(200)
	j := opened(t, "P4.1", c)
	fine(t, j.Add("one", true), c.Write("NEW", "half of a leaf"), j.Lay("s"))
	holds(t, "P4.1: Lay beside NEW", c, j, "s")
	holds(t, "P4.1: Lay beside NEW, opened again", c, opened(t, "P4.1: Lay beside NEW", c), "s")
}

// room is a chest with a journal of these records behind a first leaf of "", and with room for so many bytes more.
func room(t *testing.T, n int, l ...string) (*roll.Chest, *Journal) {
	t.Helper()
	c := roll.New(11 + len(leavesOf(l...)) + n)
	j := opened(t, "P4.1", c)
	for _, s := range l {
		fine(t, j.Add(s, true))
	}
	return c, j
}

func TestNoRoomAtOpen(t *testing.T) {
	for n := range 11 {
		c := roll.New(n)
		for range 2 {
			refused(t, "P4.1: no room at Open", c, api.ErrFull)
			if len(c.Names()) != 0 || c.Room() != n {
				t.Errorf("P4.1: no room at Open: %s", chestTold(c))
			}
		}
		c = written(t, n, map[string]string{"A": "some bytes"})
		refused(t, "P4.1: no room at Open, beside a roll", c, api.ErrFull)
		fine(t, c.Cut("A", 0))
		if n >= 1 {
			opened(t, "P4.1: room at Open", c)
		}
	}
	c := written(t, 0, map[string]string{"LOG": leavesOf("s", "one")})
	holds(t, "P4.1: no room is asked for", c, opened(t, "P4.1: no room is asked for", c), "s", "one")
}

func TestNoRoomAtAdd(t *testing.T) {
	for _, s := range []string{"", "two", "ten bytes!"} {
		for _, press := range []bool{false, true} {
			long := len(leafOf(s))
			for _, n := range []int{0, 1, 2, long - 2, long - 1} {
				c, j := room(t, n, "one")
				was := chestTold(c)
				answers(t, "P4.1: no room at Add", j.Add(s, press), api.ErrFull)
				isDown(t, "P4.1: no room at Add", c, j)
				holds(t, "P4.1: no room at Add", c, j, "", "one")
				if chestTold(c) != was {
					t.Errorf("P4.1: no room at Add: %s", chestTold(c))
				}
				holds(t, "P4.1: no room at Add, opened", c, opened(t, "P4.1", c), "", "one")
				d := c.Tear(0)
				holds(t, "P4.1: no room at Add, torn and opened", d, opened(t, "P4.1", d), "", "one")
			}
			c, j := room(t, long, "one")
			answers(t, "P4.1: just room at Add", j.Add(s, press), api.OK)
			holds(t, "P4.1: just room at Add", c, j, "", "one", s)
			answers(t, "P4.1: no room any more", j.Add("", press), api.ErrFull)
			isDown(t, "P4.1: no room any more", c, j)
		}
	}
}

func TestNoRoomAtLay(t *testing.T) {
	for _, s := range []string{"", "two", "ten bytes!"} {
		long := len(leafOf(s))
		for _, n := range []int{0, 1, 2, long - 2, long - 1} {
			c, j := room(t, n, "one", "a longer one than all that is laid")
			was := chestTold(c)
			answers(t, "P4.1: no room at Lay", j.Lay(s), api.ErrFull)
			isDown(t, "P4.1: no room at Lay", c, j)
			holds(t, "P4.1: no room at Lay", c, j, "", "one", "a longer one than all that is laid")
			if chestTold(c) != was {
				t.Errorf("P4.1: no room at Lay: %s", chestTold(c))
			}
			d := c.Tear(0)
			holds(t, "P4.1: no room at Lay, torn and opened", d, opened(t, "P4.1", d), "", "one", "a longer one than all that is laid")
		}
		c, j := room(t, long, "one")
		answers(t, "P4.1: just room at Lay", j.Lay(s), api.OK)
		holds(t, "P4.1: just room at Lay", c, j, s)
		fine(t, j.Add("one", true))
	}
}

// Another error of the chest: somebody else has given LOG another name.
func TestNoLogAtPress(t *testing.T) {
	c, j := room(t, 50, "one")
	fine(t, c.Call("LOG", "OTHER"))
	answers(t, "P4.1: no LOG at Press", j.Press(), api.ErrNone)
	isDown(t, "P4.1: no LOG at Press", c, j)
}

// The journal is down, not the chest: opened again it goes on.
func TestUpAgain(t *testing.T) {
	c, j := room(t, 20, "one")
	answers(t, "P4.1: no room", j.Add("a longer text", true), api.ErrFull)
	o := opened(t, "P4.1", c)
	fine(t, o.Add("two", true))
	holds(t, "P4.1: opened again", c, o, "", "one", "two")
	isDown(t, "P4.1: the elder one", c, j)
	tellsOf(t, "P4.1: the elder one", j, "", "one")
}

func TestRecordsAreNew(t *testing.T) {
	c, j := room(t, 100, "one", "two", "three")
	for _, j := range []*Journal{j, opened(t, "P4.1", c)} {
		l, m := j.Records(), j.Records()
		for k := range l {
			l[k] = "x"
		}
		_ = append(l[:0], "y", "y", "y", "y", "y")
		_ = append(l, "z", "z")
		if !slices.Equal(m, []string{"one", "two", "three"}) {
			t.Errorf("P0.3: Records: %q", m)
		}
		holds(t, "P0.3: Records", c, j, "", "one", "two", "three")
	}
	l := j.Records()
	fine(t, j.Add("four", true))
	_ = append(l, "y")
	holds(t, "P0.3: Records, and Add", c, j, "", "one", "two", "three", "four")
	if !slices.Equal(l, []string{"one", "two", "three"}) {
		t.Errorf("P0.3: Records, and Add: %q", l)
	}
	full := j.Records()[:3]
	_ = append(full, "y")
	fine(t, j.Lay("s"), j.Add("five", true))
	holds(t, "P0.3: Records, and Lay", c, j, "s", "five")
}

func TestNil(t *testing.T) {
	var j *Journal
	for _, s := range []string{"", "a", xs(400000), xs(400001)} {
		answers(t, "P4.1: Add to nil", j.Add(s, true), api.ErrDown)
		answers(t, "P4.1: Add to nil, loose", j.Add(s, false), api.ErrDown)
		answers(t, "P4.1: Lay of nil", j.Lay(s), api.ErrDown)
	}
	answers(t, "P4.1: Press of nil", j.Press(), api.ErrDown)
	if j.First() != "" || j.Records() != nil || j.Long() != 0 {
		t.Errorf("P4.1: nil tells %q, %q, %d", j.First(), j.Records(), j.Long())
	}
	refused(t, "P4.1: a nil chest", nil, api.ErrDown)
}

// A journal that Open did not make has no chest.
func TestNotOpened(t *testing.T) {
	for _, do := range []func(*Journal) api.Errno{
		func(j *Journal) api.Errno { return j.Add("a", false) },
		func(j *Journal) api.Errno { return j.Add("a", true) },
		func(j *Journal) api.Errno { return j.Lay("a") },
		func(j *Journal) api.Errno { return j.Press() },
	} {
		j := &Journal{}
		answers(t, "P0.1: no journal of Open's", do(j), api.ErrDown)
		isDown(t, "P0.1: no journal of Open's", nil, j)
		if j.First() != "" || len(j.Records()) != 0 || j.Long() != 0 {
			t.Error("P0.1: no journal of Open's tells something")
		}
	}
}

// calls are some in a row, each with what a journal has behind it, and how many of that are pressed (its first, too).
func calls() []struct {
	do      func(*Journal) api.Errno
	has     []string
	pressed int
} {
	add := func(s string, press bool) func(*Journal) api.Errno {
		return func(j *Journal) api.Errno { return j.Add(s, press) }
	}
	lay := func(s string) func(*Journal) api.Errno { return func(j *Journal) api.Errno { return j.Lay(s) } }
	press := func(j *Journal) api.Errno { return j.Press() }
	return []struct {
		do      func(*Journal) api.Errno
		has     []string
		pressed int
	}{
		{func(*Journal) api.Errno { return api.OK }, []string{""}, 1},
		{add("one", false), []string{"", "one"}, 1},
		{add("", false), []string{"", "one", ""}, 1},
		{press, []string{"", "one", ""}, 3},
		{add("1:a,", true), []string{"", "one", "", "1:a,"}, 4},
		{add("loose", false), []string{"", "one", "", "1:a,", "loose"}, 4},
		{add("pressed", true), []string{"", "one", "", "1:a,", "loose", "pressed"}, 6},
		{add("gone", false), []string{"", "one", "", "1:a,", "loose", "pressed", "gone"}, 6},
		{lay("state"), []string{"state"}, 1},
		{press, []string{"state"}, 1},
		{add("two", false), []string{"state", "two"}, 1},
		{add("three", false), []string{"state", "two", "three"}, 1},
		{lay(""), []string{""}, 1},
		{add("four", true), []string{"", "four"}, 2},
		{lay("the end"), []string{"the end"}, 1},
	}
}

// left are those of l, of which so many are pressed, that are whole behind Tear(n).
func left(l []string, pressed, n int) []string {
	loose := len(leavesOf(l[pressed:]...))
	stay := max(n, 0) % (loose + 1)
	for pressed < len(l) && stay >= len(leafOf(l[pressed])) {
		stay -= len(leafOf(l[pressed]))
		pressed++
	}
	return l[:pressed]
}

func TestTorn(t *testing.T) {
	c := roll.New(300)
	j := opened(t, "P4.1", c)
	for k, x := range calls() {
		answers(t, fmt.Sprintf("P4.1: the call %d", k), x.do(j), api.OK)
		holds(t, fmt.Sprintf("P4.1: behind the call %d", k), c, j, x.has...)
		if c.Pressed("LOG") != len(leavesOf(x.has[:x.pressed]...)) {
			t.Errorf("P4.1: behind the call %d: %d bytes are pressed", k, c.Pressed("LOG"))
		}
		was := chestTold(c)
		for n := -2; n < 80; n++ {
			what := fmt.Sprintf("P4.1: torn behind the call %d (%d)", k, n)
			d := c.Tear(n)
			o, want := opened(t, what, d), slices.Clip(left(x.has, x.pressed, n))
			holds(t, what, d, o, want...)
			fine(t, o.Add("on", true), o.Add("torn", false))
			e := d.Tear(n % 13)
			holds(t, what+", and again", e, opened(t, what, e), append(want, "on")...)
			fine(t, o.Lay("anew"), o.Add("torn", false))
			e = d.Tear(n % 13)
			holds(t, what+", and laid", e, opened(t, what, e), "anew")
		}
		if chestTold(c) != was {
			t.Errorf("P4.1: torn behind the call %d: the chest is %s", k, chestTold(c))
		}
	}
}
