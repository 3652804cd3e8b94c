package journal

import (
	"fmt"
	"math/rand"
	"slices"
	"testing"

	"armarium/api"
	"armarium/roll"
)

// model is a journal and its chest told in another way: the texts (the first one, too), how many of them are pressed,
// and how many bytes of the chest's other rolls there are.
type model struct {
	size  int
	texts []string
	sure  int
	old   int
	fill  int
	down  bool
}

func (m *model) room() int { return m.size - m.old - m.fill - len(leavesOf(m.texts...)) }

func (m *model) takes(s string) api.Errno {
	if m.down {
		return api.ErrDown
	}
	if len(s) > 400000 {
		return api.ErrForm
	}
	if len(leafOf(s)) > m.room() {
		m.down = true
		return api.ErrFull
	}
	return api.OK
}

func (m *model) add(s string, press bool) api.Errno {
	err := m.takes(s)
	if err == api.OK {
		m.texts = append(slices.Clip(m.texts), s)
	}
	if err == api.OK && press {
		m.sure = len(m.texts)
	}
	return err
}

func (m *model) press() api.Errno {
	if m.down {
		return api.ErrDown
	}
	m.sure = len(m.texts)
	return api.OK
}

func (m *model) lay(s string) api.Errno {
	err := m.takes(s)
	if err == api.OK {
		m.texts, m.sure = []string{s}, 1
	}
	return err
}

// opened is the model behind a fall that leaves n bytes of what is loose, or that takes nothing (n below 0).
func (m *model) opened(n int) {
	if n >= 0 {
		m.texts = left(m.texts, m.sure, n)
		m.sure = len(m.texts)
	}
	m.down = false
}

// both are a journal in its chest, and their model.
type both struct {
	c *roll.Chest
	j *Journal
	m *model
}

func (x *both) open(t *testing.T, c *roll.Chest) {
	t.Helper()
	x.c, x.j = c, opened(t, "P4.1: a model", c)
}

func pick[T any](r *rand.Rand, l ...T) T { return l[r.Intn(len(l))] }

// step does one thing to both, and answers what it was and both errors.
func step(t *testing.T, r *rand.Rand, x *both, long string) (string, api.Errno, api.Errno) {
	t.Helper()
	s := pick(r, "", "", "a", "bc", "1:a,", "a longer text", leafOf("in"), long)
	switch r.Intn(10) {
	case 0:
		return "Press", x.j.Press(), x.m.press()
	case 1, 2:
		return fmt.Sprintf("Lay of %.20q", s), x.j.Lay(s), x.m.lay(s)
	case 3:
		n := r.Intn(60)
		x.m.opened(n)
		x.open(t, x.c.Tear(n))
		return fmt.Sprintf("Tear %d", n), api.OK, api.OK
	case 4:
		x.m.opened(-1)
		x.open(t, x.c)
		return "Open again", api.OK, api.OK
	case 5:
		return fill(t, r, x)
	}
	press := r.Intn(2) == 0
	return fmt.Sprintf("Add of %.20q, %t", s, press), x.j.Add(s, press), x.m.add(s, press)
}

// fill lays something else into the chest, and opens it anew where a journal looks at that.
func fill(t *testing.T, r *rand.Rand, x *both) (string, api.Errno, api.Errno) {
	t.Helper()
	s := pick(r, "", "q", "000000010", leafOf("")[:10], leafOf("long one")[:13])
	if len(s) > x.m.room() {
		return "nothing", api.OK, api.OK
	}
	switch r.Intn(3) {
	case 0:
		fine(t, x.c.Write("FILL", s), x.c.Press("FILL"))
		x.m.fill += len(s)
		return "Write to FILL", api.OK, api.OK
	case 1:
		fine(t, x.c.Write("NEW", s), x.c.Press("NEW"))
		x.m.old = len(s)
		x.m.opened(-1)
		x.open(t, x.c)
		return "Write to NEW", api.OK, api.OK
	}
	if s == "q" {
		return "nothing", api.OK, api.OK
	}
	fine(t, x.c.Write("LOG", s))
	x.m.opened(-1)
	x.open(t, x.c)
	return fmt.Sprintf("Write of %q to LOG", s), api.OK, api.OK
}

// Journals and their models go one way, whatever is done to them.
func TestAsTheModel(t *testing.T) {
	long := xs(400001)
	for seed := range 2000 {
		r := rand.New(rand.NewSource(int64(seed)))
		size := pick(r, 11, 30, 60, 60, 100, 200)
		x := &both{m: &model{size: size, texts: []string{""}, sure: 1}}
		x.open(t, roll.New(size))
		for k := range 40 {
			was := chestTold(x.c)
			what, got, want := step(t, r, x, long)
			what = fmt.Sprintf("P4.1, %d, %d: behind %s: %s", seed, k, was, what)
			answers(t, what, got, want)
			holds(t, what, x.c, x.j, x.m.texts...)
			if n := x.c.Pressed("LOG"); n != len(leavesOf(x.m.texts[:x.m.sure]...)) || x.c.Room() != x.m.room() {
				t.Errorf("%s: %d pressed, room for %d", what, n, x.c.Room())
			}
			if t.Failed() {
				return
			}
		}
	}
}
