package roll

import (
	"math"
	"math/rand"
	"regexp"
	"slices"
	"strconv"
	"strings"
	"testing"

	"armarium/api"
)

// paper is a roll told in another way: what is pressed, what is not, and all that was done to it.
type paper struct {
	name, pressed, loose string
	done                 []string
}

// model is a chest told in another way: it reckons its room anew each time.
type model struct {
	size   int
	papers []paper
}

func (m *model) at(name string) int {
	return slices.IndexFunc(m.papers, func(p paper) bool { return p.name == name })
}

func (m *model) room() int {
	left := m.size
	for _, p := range m.papers {
		left -= len(p.pressed + p.loose)
	}
	return left
}

var named = regexp.MustCompile(`^[A-Z]{1,10}$`)

func (m *model) write(name, s string) api.Errno {
	if !named.MatchString(name) {
		return api.ErrForm
	}
	if m.room() < len(s) {
		return api.ErrFull
	}
	if m.at(name) < 0 {
		m.papers = append(m.papers, paper{name: name})
	}
	m.papers[m.at(name)].loose += s
	return api.OK
}

func (m *model) press(name string) api.Errno {
	k := m.at(name)
	if k < 0 {
		return api.ErrNone
	}
	p := &m.papers[k]
	p.pressed, p.loose = p.pressed+p.loose, ""
	p.done = append(p.done, "pressed")
	return api.OK
}

func (m *model) cut(name string, n int) api.Errno {
	k := m.at(name)
	if k < 0 {
		return api.ErrNone
	}
	p := &m.papers[k]
	if n < 0 || n > len(p.pressed+p.loose) {
		return api.ErrRange
	}
	if n < len(p.pressed) {
		p.pressed, p.loose = p.pressed[:n], ""
	} else {
		p.loose = p.loose[:n-len(p.pressed)]
	}
	p.done = append(p.done, "cut")
	return api.OK
}

func (m *model) call(from, to string) api.Errno {
	if !named.MatchString(to) {
		return api.ErrForm
	}
	if m.at(from) < 0 {
		return api.ErrNone
	}
	if from == to {
		return api.OK
	}
	if k := m.at(to); k >= 0 {
		m.papers = slices.Delete(m.papers, k, k+1)
	}
	p := &m.papers[m.at(from)]
	p.name = to
	p.done = append(p.done, "called")
	return api.OK
}

func (m *model) tear(n int) *model {
	torn := &model{size: m.size}
	for _, p := range m.papers {
		stays := p.pressed
		if n > 0 {
			stays += p.loose[:n%(len(p.loose)+1)]
		}
		if stays != "" || len(p.done) > 0 {
			torn.papers = append(torn.papers, paper{name: p.name, pressed: stays, done: []string{"pressed"}})
		}
	}
	return torn
}

func (m *model) told() string {
	l := slices.SortedFunc(slices.Values(m.papers), func(p, q paper) int { return strings.Compare(p.name, q.name) })
	s := ""
	for _, p := range l {
		s += p.name + ":" + p.pressed + "|" + p.loose + " "
	}
	return s + strconv.Itoa(m.room())
}

// both are a chest and its model.
type both struct {
	c *Chest
	m *model
}

func pick[T any](r *rand.Rand, l ...T) T { return l[r.Intn(len(l))] }

// step does one thing to both, and answers what it was and both errors.
func step(r *rand.Rand, x *both) (string, api.Errno, api.Errno) {
	name := pick(r, "A", "B", "C", "ABCDEFGHIJ", "A", "B", "", "a", "ABCDEFGHIJK", "Z\n")
	switch r.Intn(9) {
	case 0:
		return "Press of " + strconv.Quote(name), x.c.Press(name), x.m.press(name)
	case 1, 2:
		n := pick(r, 0, 0, 1, 2, 3, 5, -1, 30, math.MaxInt, math.MinInt)
		return "Cut of " + strconv.Quote(name) + " at " + strconv.Itoa(n), x.c.Cut(name, n), x.m.cut(name, n)
	case 3, 4:
		to := pick(r, "A", "B", "C", "ABCDEFGHIJ", name, "", "b")
		return "Call of " + strconv.Quote(name) + " to " + strconv.Quote(to), x.c.Call(name, to), x.m.call(name, to)
	case 5:
		if r.Intn(3) == 0 {
			n := pick(r, -1, 0, 1, 2, 3, 4, 5, 6, 7, 100)
			x.c, x.m = x.c.Tear(n), x.m.tear(n)
			return "Tear " + strconv.Itoa(n), api.OK, api.OK
		}
	}
	s := pick(r, "", "", "x", "yz", "123", "a longer one")
	return "Write of " + s + " to " + strconv.Quote(name), x.c.Write(name, s), x.m.write(name, s)
}

// Chests and their models go one way, whatever is done to them.
func TestAsTheModel(t *testing.T) {
	for seed := range 4000 {
		r := rand.New(rand.NewSource(int64(seed)))
		size := pick(r, 0, 1, 7, 20, 20, 50)
		x := &both{New(size), &model{size: size}}
		for k := range 40 {
			was, c := told(x.c), x.c
			what, got, want := step(r, x)
			if got != want || told(x.c) != x.m.told() {
				t.Fatalf("P3.1, %d: behind %q, %s: error %d, not %d: %q, not %q", seed, was, what, got, want, told(x.c), x.m.told())
			}
			if c != x.c && told(c) != was {
				t.Fatalf("P3.2, %d: %q was torn, and is %q", seed, was, told(c))
			}
			n := pick(r, math.MinInt, -1, 0, 1, 2, 3, k, math.MaxInt)
			if d := x.c.Tear(n); told(d) != x.m.tear(n).told() || told(x.c) != x.m.told() {
				t.Fatalf("P3.2, %d: Tear %d of %q: %q, not %q", seed, n, told(x.c), told(d), x.m.tear(n).told())
			}
		}
	}
}
