package roll

import (
	"math"
	"slices"
	"strconv"
	"strings"
	"testing"

	"armarium/api"
)

// told is all that a chest tells: each roll, with a bar behind what is pressed, and the room.
func told(c *Chest) string {
	s := ""
	for _, name := range c.Names() {
		text, ok := c.Read(name)
		if !ok {
			return name + " is none"
		}
		k := c.Pressed(name)
		if k < 0 || k > len(text) {
			return name + " has more that is pressed than it has"
		}
		s += name + ":" + text[:k] + "|" + text[k:] + " "
	}
	return s + strconv.Itoa(c.Room())
}

// holds asks what a chest tells.
func holds(t *testing.T, what string, c *Chest, want string) {
	t.Helper()
	if got := told(c); got != want {
		t.Errorf("%s: %.200q, not %.200q", what, got, want)
	}
}

// answers asks for an error.
func answers(t *testing.T, what string, got, want api.Errno) {
	t.Helper()
	if got != want {
		t.Errorf("%s: error %d, not %d", what, got, want)
	}
}

// fine does what may not fail.
func fine(t *testing.T, l ...api.Errno) {
	t.Helper()
	for k, err := range l {
		answers(t, "the step "+strconv.Itoa(k), err, api.OK)
	}
}

// wrong are names that may not be.
func wrong() []string {
	l := []string{"", "ABCDEFGHIJK", "a", "z", "Ab", "aB", "ABCDEFGHIj", "A1", "1", "A B", " A", "A ", "A\n", "\x00", "A\x00", "\xff", "É", "Ａ", "А", "ſ", "A_", "A-B", "A.",
		strings.Repeat("A", 20), strings.Repeat("A", 266), strings.Repeat("Z", 1<<20), strings.Repeat("x", 1<<20)}
	for x := range 256 {
		if x < 'A' || x > 'Z' {
			c := string([]byte{byte(x)})
			l = append(l, c, c+"A", "A"+c, "ABCDEFGHI"+c, "ABCD"+c+"FGHIJ")
		}
	}
	return l
}

// right are names that may be.
func right() []string {
	l := []string{"AZ", "ZA", "ABCDEFGHI", "ABCDEFGHIJ", "ZZZZZZZZZZ", "AAAAAAAAAA"}
	for x := 'A'; x <= 'Z'; x++ {
		l = append(l, string(x))
	}
	return l
}

func TestNew(t *testing.T) {
	for _, x := range []struct{ room, want int }{{math.MinInt, 0}, {-1 << 20, 0}, {-1, 0}, {0, 0}, {1, 1}, {2, 2}, {1000, 1000}, {1<<20 - 1, 1<<20 - 1}, {1 << 20, 1 << 20}, {1<<20 + 1, 1 << 20}, {1 << 32, 1 << 20}, {math.MaxInt, 1 << 20}} {
		c := New(x.room)
		what := "P3.1: New of " + strconv.Itoa(x.room)
		holds(t, what, c, strconv.Itoa(x.want))
		answers(t, what+", a byte too much", c.Write("A", strings.Repeat("x", x.want+1)), api.ErrFull)
		holds(t, what+", a byte too much", c, strconv.Itoa(x.want))
		text := strings.Repeat("x", x.want)
		answers(t, what+", all of it", c.Write("A", text), api.OK)
		holds(t, what+", all of it", c, "A:|"+text+" 0")
		answers(t, what+", no byte more", c.Write("A", "x"), api.ErrFull)
		answers(t, what+", no byte more", c.Write("B", "x"), api.ErrFull)
		answers(t, what+", nothing more", c.Write("A", ""), api.OK)
		holds(t, what+", no byte more", c, "A:|"+text+" 0")
	}
}

func TestRightNames(t *testing.T) {
	for _, name := range right() {
		c := New(9)
		answers(t, "P3.1: Write of "+name, c.Write(name, "ab"), api.OK)
		answers(t, "P3.1: Press of "+name, c.Press(name), api.OK)
		answers(t, "P3.1: Cut of "+name, c.Cut(name, 1), api.OK)
		holds(t, "P3.1: a roll", c, name+":a| 8")
		if name != "Q" {
			answers(t, "P3.1: Call of "+name, c.Call(name, "Q"), api.OK)
			holds(t, "P3.1: a roll that was called", c, "Q:a| 8")
			answers(t, "P3.1: Call to "+name, c.Call("Q", name), api.OK)
		}
		holds(t, "P3.1: a roll that was called", c, name+":a| 8")
	}
}

func TestWrongNames(t *testing.T) {
	c := New(9)
	fine(t, c.Write("A", "one"), c.Press("A"), c.Write("A", "two"))
	const was = "A:one|two 3"
	for _, name := range wrong() {
		for _, s := range []string{"", "x", "more than there is room for"} {
			answers(t, "P3.1: Write to a wrong name", c.Write(name, s), api.ErrForm)
		}
		answers(t, "P3.1: Press of a wrong name", c.Press(name), api.ErrNone)
		for _, n := range []int{-1, 0, 1, 100} {
			answers(t, "P3.1: Cut of a wrong name", c.Cut(name, n), api.ErrNone)
		}
		answers(t, "P3.1: Call to a wrong name", c.Call("A", name), api.ErrForm)
		answers(t, "P3.1: Call of none to a wrong name", c.Call("B", name), api.ErrForm)
		answers(t, "P3.1: Call of a wrong name to itself", c.Call(name, name), api.ErrForm)
		answers(t, "P3.1: Call of a wrong name", c.Call(name, "B"), api.ErrNone)
		answers(t, "P3.1: Call of a wrong name to a roll's", c.Call(name, "A"), api.ErrNone)
		if s, ok := c.Read(name); s != "" || ok || c.Pressed(name) != 0 {
			t.Errorf("P3.1: %.20q may not be, but can be read", name)
		}
		if told(c) != was {
			t.Fatalf("P3.1: behind %.20q: %q", name, told(c))
		}
	}
}

func TestOfNone(t *testing.T) {
	for _, c := range []*Chest{New(5), New(0), {}, New(5).Tear(1)} {
		was := told(c)
		for _, name := range []string{"A", "B", "ABCDEFGHIJ"} {
			answers(t, "P3.1: Press of none", c.Press(name), api.ErrNone)
			for _, n := range []int{math.MinInt, -1, 0, 1, math.MaxInt} {
				answers(t, "P3.1: Cut of none", c.Cut(name, n), api.ErrNone)
			}
			for _, to := range []string{"A", "B", "Q"} {
				answers(t, "P3.1: Call of none", c.Call(name, to), api.ErrNone)
			}
			if s, ok := c.Read(name); s != "" || ok || c.Pressed(name) != 0 {
				t.Errorf("P3.1: there is no roll, but it can be read: %q", s)
			}
		}
		holds(t, "P3.1: no roll", c, was)
		if len(c.Names()) != 0 {
			t.Errorf("P3.1: names of no rolls: %q", c.Names())
		}
	}
}

func TestWrite(t *testing.T) {
	c := New(20)
	for _, x := range []struct {
		name, s string
		err     api.Errno
		want    string
	}{
		{"B", "one", api.OK, "B:|one 17"},
		{"B", ",two", api.OK, "B:|one,two 13"},
		{"A", "", api.OK, "A:| B:|one,two 13"},
		{"A", "fourteen bytes", api.ErrFull, "A:| B:|one,two 13"},
		{"C", "fourteen bytes", api.ErrFull, "A:| B:|one,two 13"},
		{"B", "fourteen bytes", api.ErrFull, "A:| B:|one,two 13"},
		{"B", "", api.OK, "A:| B:|one,two 13"},
		{"C", "\x00\xffé", api.OK, "A:| B:|one,two C:|\x00\xffé 9"},
		{"A", "nine bytes", api.ErrFull, "A:| B:|one,two C:|\x00\xffé 9"},
		{"A", "9 bytes..", api.OK, "A:|9 bytes.. B:|one,two C:|\x00\xffé 0"},
		{"B", "!", api.ErrFull, "A:|9 bytes.. B:|one,two C:|\x00\xffé 0"},
		{"D", "!", api.ErrFull, "A:|9 bytes.. B:|one,two C:|\x00\xffé 0"},
		{"D", "", api.OK, "A:|9 bytes.. B:|one,two C:|\x00\xffé D:| 0"},
		{"B", "", api.OK, "A:|9 bytes.. B:|one,two C:|\x00\xffé D:| 0"},
	} {
		answers(t, "P3.1: Write of "+strconv.Quote(x.s), c.Write(x.name, x.s), x.err)
		holds(t, "P3.1: Write of "+strconv.Quote(x.s), c, x.want)
	}
}

// Room that one call gives back is there for the next one, and no more than that.
func TestRoomComesBack(t *testing.T) {
	c := New(10)
	fine(t, c.Write("A", "12345"), c.Write("B", "67890"))
	answers(t, "P3.1: Write of a byte too much", c.Write("A", "x"), api.ErrFull)
	fine(t, c.Cut("A", 3))
	answers(t, "P3.1: Write of a byte too much", c.Write("B", "xyz"), api.ErrFull)
	fine(t, c.Write("B", "xy"))
	holds(t, "P3.1: Cut gives room", c, "A:|123 B:|67890xy 0")
	fine(t, c.Call("A", "B"))
	answers(t, "P3.1: Write of a byte too much", c.Write("C", "12345678"), api.ErrFull)
	fine(t, c.Write("C", "1234567"))
	holds(t, "P3.1: Call gives room", c, "B:|123 C:|1234567 0")
}

func TestPress(t *testing.T) {
	c := New(20)
	fine(t, c.Write("A", "one"), c.Write("B", "two"), c.Press("A"))
	holds(t, "P3.1: Press", c, "A:one| B:|two 14")
	fine(t, c.Press("A"))
	holds(t, "P3.1: Press again", c, "A:one| B:|two 14")
	fine(t, c.Write("A", "more"), c.Write("A", ""))
	holds(t, "P3.1: what is written behind Press", c, "A:one|more B:|two 10")
	fine(t, c.Press("A"), c.Press("B"), c.Write("C", ""), c.Press("C"))
	holds(t, "P3.1: Press of all", c, "A:onemore| B:two| C:| 10")
	fine(t, c.Write("C", "x"))
	holds(t, "P3.1: what is written behind Press of nothing", c, "A:onemore| B:two| C:|x 9")
}

// half is a chest with a roll of six bytes, of which three are pressed, and another roll.
func half(t *testing.T) *Chest {
	t.Helper()
	c := New(20)
	fine(t, c.Write("A", "abc"), c.Press("A"), c.Write("A", "def"), c.Write("B", "loose"))
	return c
}

func TestCut(t *testing.T) {
	for n, want := range []string{"A:| B:|loose 15", "A:a| B:|loose 14", "A:ab| B:|loose 13", "A:abc| B:|loose 12", "A:abc|d B:|loose 11", "A:abc|de B:|loose 10", "A:abc|def B:|loose 9"} {
		c := half(t)
		answers(t, "P3.1: Cut", c.Cut("A", n), api.OK)
		holds(t, "P3.1: Cut at "+strconv.Itoa(n), c, want)
		for _, more := range []int{n + 1, n + 2, 6, 7, 100, math.MaxInt, -1, -n - 1, math.MinInt} {
			if more > n || more < 0 {
				answers(t, "P3.1: Cut at "+strconv.Itoa(more)+" of "+strconv.Itoa(n), c.Cut("A", more), api.ErrRange)
			}
		}
		holds(t, "P3.1: Cut where it may not be", c, want)
		fine(t, c.Cut("A", n))
		holds(t, "P3.1: Cut again", c, want)
		fine(t, c.Write("A", "+"))
		text, _ := c.Read("A")
		if text != "abcdef"[:n]+"+" || c.Pressed("A") != min(n, 3) {
			t.Errorf("P3.1: what is written behind Cut at %d: %q, %d pressed", n, text, c.Pressed("A"))
		}
	}
	c := half(t)
	for _, n := range []int{7, -1, math.MaxInt, math.MinInt} {
		answers(t, "P3.1: Cut at "+strconv.Itoa(n), c.Cut("A", n), api.ErrRange)
	}
	holds(t, "P3.1: Cut where it may not be", c, "A:abc|def B:|loose 9")
	fine(t, c.Write("E", ""), c.Cut("E", 0))
	answers(t, "P3.1: Cut at 1 of an empty roll", c.Cut("E", 1), api.ErrRange)
	answers(t, "P3.1: Cut at -1 of an empty roll", c.Cut("E", -1), api.ErrRange)
	holds(t, "P3.1: Cut of an empty roll", c, "A:abc|def B:|loose E:| 9")
}

func TestCall(t *testing.T) {
	for _, x := range []struct {
		from, to string
		err      api.Errno
		want     string
	}{
		{"A", "A", api.OK, "A:abc|def B:|loose 9"},
		{"B", "B", api.OK, "A:abc|def B:|loose 9"},
		{"A", "C", api.OK, "B:|loose C:abc|def 9"},
		{"B", "C", api.OK, "A:abc|def C:|loose 9"},
		{"A", "ABCDEFGHIJ", api.OK, "ABCDEFGHIJ:abc|def B:|loose 9"},
		{"A", "B", api.OK, "B:abc|def 14"},
		{"B", "A", api.OK, "A:|loose 15"},
		{"A", "", api.ErrForm, "A:abc|def B:|loose 9"},
		{"A", "a", api.ErrForm, "A:abc|def B:|loose 9"},
		{"C", "c", api.ErrForm, "A:abc|def B:|loose 9"},
		{"C", "ABCDEFGHIJK", api.ErrForm, "A:abc|def B:|loose 9"},
		{"C", "D", api.ErrNone, "A:abc|def B:|loose 9"},
		{"C", "C", api.ErrNone, "A:abc|def B:|loose 9"},
		{"C", "A", api.ErrNone, "A:abc|def B:|loose 9"},
		{"", "A", api.ErrNone, "A:abc|def B:|loose 9"},
		{"", "", api.ErrForm, "A:abc|def B:|loose 9"},
	} {
		c := half(t)
		answers(t, "P3.1: Call of "+x.from+" to "+x.to, c.Call(x.from, x.to), x.err)
		holds(t, "P3.1: Call of "+x.from+" to "+x.to, c, x.want)
	}
}

// A roll that was called is the same roll, and its elder name is free.
func TestBehindCall(t *testing.T) {
	c := half(t)
	fine(t, c.Call("A", "B"))
	if s, ok := c.Read("A"); s != "" || ok || c.Pressed("A") != 0 {
		t.Errorf("P3.1: a name from which a roll was called: %q", s)
	}
	answers(t, "P3.1: Press of a name from which a roll was called", c.Press("A"), api.ErrNone)
	fine(t, c.Write("B", "g"), c.Write("A", "new"))
	holds(t, "P3.1: behind Call", c, "A:|new B:abc|defg 10")
	fine(t, c.Press("B"), c.Cut("B", 5), c.Call("A", "C"), c.Call("B", "A"), c.Call("C", "B"))
	holds(t, "P3.1: behind some Calls", c, "A:abcde| B:|new 12")
}

func TestNamesAndRead(t *testing.T) {
	c := New(100)
	l := []string{"B", "AZ", "ZZZZZZZZZZ", "A", "AB", "ABCDEFGHIJ", "AAA", "C", "Z"}
	for _, name := range l {
		fine(t, c.Write(name, strings.ToLower(name)))
	}
	slices.Sort(l)
	if !slices.Equal(c.Names(), l) {
		t.Errorf("P3.1: Names: %q", c.Names())
	}
	for _, name := range l {
		if s, ok := c.Read(name); s != strings.ToLower(name) || !ok {
			t.Errorf("P3.1: Read of %s: %q", name, s)
		}
	}
	one, two := c.Names(), c.Names()
	one[0] = "X"
	_ = append(one, "Y")
	if !slices.Equal(two, l) || !slices.Equal(c.Names(), l) {
		t.Errorf("P0.3: one answer changed another one: %q, %q", two, c.Names())
	}
}

// ends are some of each kind: as they were written, pressed, cut and called.
func ends(t *testing.T) *Chest {
	t.Helper()
	c := New(100)
	fine(t, c.Write("ACUT", "abcdef"), c.Press("ACUT"), c.Cut("ACUT", 2), c.Write("ACUT", "34"))
	fine(t, c.Write("BOTH", "sure"), c.Press("BOTH"), c.Write("BOTH", "loose"))
	fine(t, c.Write("FROM", "xyz"), c.Call("FROM", "CALLED"))
	fine(t, c.Write("CUT", "q"), c.Cut("CUT", 1))
	fine(t, c.Write("LOOSE", "abcd"))
	fine(t, c.Write("NONE", ""))
	fine(t, c.Write("NONECALL", ""), c.Call("NONECALL", "NONECALLED"))
	fine(t, c.Write("NONECUT", ""), c.Cut("NONECUT", 0))
	fine(t, c.Write("NONEPRESS", ""), c.Press("NONEPRESS"))
	fine(t, c.Write("NONESAME", ""), c.Call("NONESAME", "NONESAME"))
	fine(t, c.Write("SAME", "s"), c.Call("SAME", "SAME"))
	fine(t, c.Write("SURE", "all"), c.Press("SURE"))
	return c
}

func TestTear(t *testing.T) {
	const was = "ACUT:ab|34 BOTH:sure|loose CALLED:|xyz CUT:|q LOOSE:|abcd NONE:| NONECALLED:| NONECUT:| NONEPRESS:| NONESAME:| SAME:|s SURE:all| 75"
	const nones = "NONECALLED:| NONECUT:| NONEPRESS:| "
	none := "ACUT:ab| BOTH:sure| CALLED:| CUT:| " + nones + "SURE:all| 91"
	for _, x := range []struct {
		n    int
		want string
	}{
		{math.MinInt, none}, {-60, none}, {-3, none}, {-2, none}, {-1, none}, {0, none},
		{1, "ACUT:ab3| BOTH:surel| CALLED:x| CUT:q| LOOSE:a| " + nones + "SAME:s| SURE:all| 85"},
		{2, "ACUT:ab34| BOTH:surelo| CALLED:xy| CUT:| LOOSE:ab| " + nones + "SURE:all| 83"},
		{3, "ACUT:ab| BOTH:sureloo| CALLED:xyz| CUT:q| LOOSE:abc| " + nones + "SAME:s| SURE:all| 80"},
		{4, "ACUT:ab3| BOTH:sureloos| CALLED:| CUT:| LOOSE:abcd| " + nones + "SURE:all| 82"},
		{5, "ACUT:ab34| BOTH:sureloose| CALLED:x| CUT:q| " + nones + "SAME:s| SURE:all| 81"},
		{6, "ACUT:ab| BOTH:sure| CALLED:xy| CUT:| LOOSE:a| " + nones + "SURE:all| 88"},
		{59, "ACUT:ab34| BOTH:sureloose| CALLED:xyz| CUT:q| LOOSE:abcd| " + nones + "SAME:s| SURE:all| 75"},
		{60, none}, {60 << 40, none},
		// 2^63 - 1 is 1 modulo 6, 2 modulo 5, 3 modulo 4, 1 modulo 3 and 1 modulo 2.
		{math.MaxInt, "ACUT:ab3| BOTH:surel| CALLED:xyz| CUT:q| LOOSE:ab| " + nones + "SAME:s| SURE:all| 82"},
	} {
		c := ends(t)
		what := "P3.2: Tear " + strconv.Itoa(x.n)
		d := c.Tear(x.n)
		holds(t, what, d, x.want)
		holds(t, what+": the chest that was torn", c, was)
		for _, n := range []int{math.MinInt, -1, 0, 1, 2, 7, math.MaxInt} {
			holds(t, what+", and again", d.Tear(n), x.want)
		}
		holds(t, what+" again", c.Tear(x.n), x.want)
		holds(t, what+", torn itself", d, x.want)
	}
}

// Each roll by its own length: of n loose bytes all numbers from 0 to n may stay.
func TestTearAtEachLength(t *testing.T) {
	for long := range 9 {
		for pressed := range 3 {
			c := New(30)
			fine(t, c.Write("A", "123456789"[:pressed]), c.Press("A"), c.Write("A", "abcdefghi"[:long]))
			for n := range 40 {
				stays := n % (long + 1)
				d := c.Tear(n)
				s, ok := d.Read("A")
				if want := "123456789"[:pressed] + "abcdefghi"[:stays]; s != want || !ok || d.Pressed("A") != len(want) || d.Room() != 30-len(want) {
					t.Errorf("P3.2: Tear %d of %d and %d: %q, room for %d", n, pressed, long, s, d.Room())
				}
			}
		}
	}
}

// What failed or did nothing makes no roll stay.
func TestNotSure(t *testing.T) {
	c := New(9)
	fine(t, c.Write("A", "abc"), c.Write("E", ""), c.Write("P", "p"), c.Press("P"))
	for _, x := range []struct {
		what      string
		got, want api.Errno
	}{
		{"Cut behind its end", c.Cut("A", 4), api.ErrRange}, {"Cut behind its end", c.Cut("E", 1), api.ErrRange},
		{"Cut ahead of its beginning", c.Cut("A", -1), api.ErrRange}, {"Cut ahead of its beginning", c.Cut("E", -1), api.ErrRange},
		{"Call to a wrong name", c.Call("A", "a"), api.ErrForm}, {"Call to no name", c.Call("E", ""), api.ErrForm},
		{"Call to its own name", c.Call("A", "A"), api.OK}, {"Call to its own name", c.Call("E", "E"), api.OK},
		{"Call of none", c.Call("B", "A"), api.ErrNone}, {"Call of none", c.Call("B", "E"), api.ErrNone},
		{"Press of none", c.Press("B"), api.ErrNone}, {"Cut of none", c.Cut("B", 0), api.ErrNone},
		{"Write of too much", c.Write("A", "123456"), api.ErrFull}, {"Write of nothing", c.Write("E", ""), api.OK},
		{"Write of too much", c.Write("N", "123456"), api.ErrFull},
	} {
		answers(t, "P3.1: "+x.what, x.got, x.want)
		holds(t, "P3.2: Tear behind "+x.what, c.Tear(0), "P:p| 8")
		holds(t, "P3.2: Tear behind "+x.what, c.Tear(1), "A:a| P:p| 7")
	}
}

// A name says nothing of whether a roll stays: the roll does.
func TestSureGoesWithTheRoll(t *testing.T) {
	c := New(20)
	fine(t, c.Write("A", "a"), c.Press("A"), c.Call("A", "B"), c.Write("A", "x"))
	holds(t, "P3.2: a new roll under an elder one's name", c.Tear(0), "B:a| 19")
	fine(t, c.Write("C", "y"), c.Call("C", "B"))
	holds(t, "P3.2: a loose roll in place of a pressed one", c, "A:|x B:|y 18")
	holds(t, "P3.2: a loose roll in place of a pressed one", c.Tear(0), "B:| 20")
	holds(t, "P3.2: a loose roll in place of a pressed one", c.Tear(1), "A:x| B:y| 18")
	fine(t, c.Press("B"), c.Call("A", "B"))
	holds(t, "P3.2: it is gone, for good", c.Tear(1), "B:x| 19")
	fine(t, c.Call("B", "C"), c.Call("C", "B"))
	holds(t, "P3.2: there and back", c.Tear(2), "B:| 20")
}

// What is pressed, cut or called is so for good, whatever comes behind it.
func TestForGood(t *testing.T) {
	c := New(40)
	fine(t, c.Write("A", "sure"), c.Press("A"))
	for k := range 8 {
		fine(t, c.Write("A", "x"), c.Write("B", "yy"))
		answers(t, "P3.1: Write of too much", c.Write("A", strings.Repeat("x", 40)), api.ErrFull)
		answers(t, "P3.1: Cut behind its end", c.Cut("A", 100), api.ErrRange)
		holds(t, "P3.2: what is pressed stays", c.Tear(-1), "A:sure| 36")
		if s, _ := c.Read("A"); s != "sure"+strings.Repeat("x", k+1) || c.Pressed("A") != 4 {
			t.Errorf("P3.1: what is pressed: %q, %d", s, c.Pressed("A"))
		}
	}
	fine(t, c.Cut("A", 2), c.Write("A", "re"))
	holds(t, "P3.2: what was cut is gone", c.Tear(0), "A:su| 38")
	holds(t, "P3.2: what was cut is gone", c.Tear(2), "A:sure| B:yy| 34")
	fine(t, c.Cut("A", 0), c.Write("A", "sure"))
	holds(t, "P3.2: what was cut is gone", c.Tear(0), "A:| 40")
	holds(t, "P3.2: what was cut is gone", c.Tear(3), "A:sur| B:yyy| 34")
	fine(t, c.Call("A", "C"), c.Cut("B", 0), c.Write("B", "z"))
	holds(t, "P3.2: what was called", c.Tear(0), "B:| C:| 40")
	fine(t, c.Press("C"), c.Cut("C", 0))
	holds(t, "P3.2: a roll of which nothing is pressed any more", c.Tear(0), "B:| C:| 40")
}

// Neither chest changes when the other one is written to, in the room behind its rolls either.
func TestTornIsAnother(t *testing.T) {
	c := New(1000)
	fine(t, c.Write("A", "a longer text, cut here: gone"), c.Cut("A", 23), c.Write("B", "b"))
	d, e := c.Tear(23), c.Tear(23)
	was, torn := told(c), told(d)
	fine(t, d.Write("A", "123"), d.Press("A"), d.Cut("B", 0), d.Call("B", "C"), d.Write("B", "new"))
	const left = "A:a longer text, cut here123| B:|new C:| 971"
	holds(t, "P3.2: the chest that was torn", c, was)
	holds(t, "P3.2: another one that was torn off it", e, torn)
	fine(t, c.Write("A", "45678"), e.Write("A", "9"))
	holds(t, "P3.2: what was torn off", d, left)
	holds(t, "P3.2: the chest that was torn", c, "A:|a longer text, cut here45678 B:|b 971")
	holds(t, "P3.2: another one that was torn off it", e, "A:a longer text, cut here|9 B:b| 975")
	fine(t, c.Cut("A", 0), c.Write("A", "overwritten!!"))
	holds(t, "P3.2: what was torn off", d, left)
}

// What was read stays as it was read.
func TestReadIsNew(t *testing.T) {
	c := New(20)
	fine(t, c.Write("A", "first"))
	s, _ := c.Read("A")
	fine(t, c.Cut("A", 2), c.Write("A", "xxxxx"))
	if again, _ := c.Read("A"); s != "first" || again != "fixxxxx" {
		t.Errorf("P0.3: %q, and then %q", s, again)
	}
}

// A chest that is torn is one as any other: its room is the elder one's.
func TestWriteToTorn(t *testing.T) {
	c := New(6)
	fine(t, c.Write("A", "abc"), c.Press("A"), c.Write("A", "def"))
	answers(t, "P3.1: Write of too much", c.Write("A", "g"), api.ErrFull)
	d := c.Tear(1)
	answers(t, "P3.2: Write of too much behind Tear", d.Write("A", "ghi"), api.ErrFull)
	fine(t, d.Write("A", "gh"))
	holds(t, "P3.2: Write behind Tear", d, "A:abcd|gh 0")
	holds(t, "P3.2: Tear of what was torn and written to", d.Tear(1), "A:abcdg| 1")
	fine(t, d.Cut("A", 0), d.Write("B", "123456"))
	holds(t, "P3.2: Tear of what was torn and written to", d.Tear(0), "A:| 6")
	answers(t, "P3.2: Write where there is no roll", New(0).Tear(5).Write("A", "x"), api.ErrFull)
}

func TestNil(t *testing.T) {
	var c *Chest
	for _, name := range append(wrong(), right()...) {
		for _, s := range []string{"", "x", strings.Repeat("x", 1<<20+1)} {
			answers(t, "P3.2: Write to nil", c.Write(name, s), api.ErrDown)
		}
		answers(t, "P3.2: Press of nil", c.Press(name), api.ErrDown)
		for _, n := range []int{math.MinInt, -1, 0, 1, math.MaxInt} {
			answers(t, "P3.2: Cut of nil", c.Cut(name, n), api.ErrDown)
		}
		for _, to := range []string{name, "A", "", "a"} {
			answers(t, "P3.2: Call of nil", c.Call(name, to), api.ErrDown)
		}
		if s, ok := c.Read(name); s != "" || ok || c.Pressed(name) != 0 {
			t.Errorf("P3.2: Read of nil: %q", s)
		}
	}
	for _, n := range []int{math.MinInt, -1, 0, 1, math.MaxInt} {
		if c.Tear(n) != nil {
			t.Error("P3.2: Tear of nil")
		}
	}
	if len(c.Names()) != 0 || c.Room() != 0 {
		t.Error("P3.2: Names and Room of nil")
	}
}

// A chest that New did not make has no room, and works.
func TestNotNew(t *testing.T) {
	c := &Chest{}
	holds(t, "P0.1: no chest of New's", c.Tear(1), "0")
	answers(t, "P0.1: no chest of New's", c.Write("A", "x"), api.ErrFull)
	fine(t, c.Write("A", ""), c.Call("A", "B"), c.Press("B"), c.Cut("B", 0))
	holds(t, "P0.1: no chest of New's", c, "B:| 0")
	holds(t, "P0.1: no chest of New's", c.Tear(1), "B:| 0")
}

// keepsLittle asks that the roll A, cut at n, holds on to little more memory than that.
func keepsLittle(t *testing.T, c *Chest, n int) {
	t.Helper()
	if long := cap(c.rolls["A"].text); long > 4*n+8 {
		t.Fatalf("Cut at %d keeps %d bytes", n, long)
	}
}

func TestCutKeepsLittle(t *testing.T) {
	for _, n := range []int{0, 1, 2, 100, 1<<18 - 1, 1 << 18, 1<<19 + 1, 1 << 20} {
		c := New(1 << 20)
		fine(t, c.Write("A", strings.Repeat("x", 1<<20)), c.Cut("A", n))
		keepsLittle(t, c, n)
		if s, _ := c.Read("A"); len(s) != n {
			t.Errorf("P3.1: Cut at %d: %d bytes", n, len(s))
		}
	}
}

func TestLong(t *testing.T) {
	c := New(1 << 20)
	for k := range 1 << 20 {
		if err := c.Write("A", string([]byte{byte(k)})); err != api.OK {
			t.Fatalf("P3.1: Write of the byte %d: error %d", k, err)
		}
	}
	answers(t, "P3.1: Write of a byte too much", c.Write("A", "x"), api.ErrFull)
	for n := 1<<20 - 1; n >= 0; n-- {
		if err := c.Cut("A", n); err != api.OK {
			t.Fatalf("P3.1: Cut at %d: error %d", n, err)
		}
		keepsLittle(t, c, n)
		if n%99991 == 0 {
			s, _ := c.Read("A")
			if len(s) != n || c.Room() != 1<<20-n || n > 0 && s[n-1] != byte(n-1) {
				t.Errorf("P3.1: Cut at %d: %d bytes, room for %d", n, len(s), c.Room())
			}
		}
	}
}

func TestManyRolls(t *testing.T) {
	c := New(10)
	for k := range 26 * 26 * 26 {
		name := string([]byte{byte('A' + k/676), byte('A' + k/26%26), byte('A' + k%26)})
		fine(t, c.Write(name, ""))
		if k%2 == 0 {
			fine(t, c.Press(name))
		}
	}
	if l := c.Names(); len(l) != 17576 || !slices.IsSorted(l) || c.Room() != 10 {
		t.Errorf("P3.1: %d rolls", len(l))
	}
	if l := c.Tear(0).Names(); len(l) != 8788 || !slices.IsSorted(l) {
		t.Errorf("P3.2: %d rolls", len(l))
	}
}
