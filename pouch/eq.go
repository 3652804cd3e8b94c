package pouch

// pair is two lists that are as long as each other.
type pair struct{ a, b []Value }

// Eq tells whether a and b are the same. What comes in here need not be what may be: it may be too deep for calls
// within calls, and a list may be in many places or a part of itself. So what is still to be compared is kept in a
// list, and no two lists that are known to go together are compared again.
func Eq(a, b Value) bool {
	known := classes{}
	left := []pair{{[]Value{a}, []Value{b}}}
	for len(left) > 0 {
		p := left[len(left)-1]
		left = left[:len(left)-1]
		for k := range p.a {
			x, y := &p.a[k], &p.b[k]
			if x.Kind != y.Kind || x.N != y.N || x.S != y.S || len(x.L) != len(y.L) {
				return false
			}
			if len(x.L) > 0 && known.join(placeOf(x.L), placeOf(y.L)) {
				left = append(left, pair{x.L, y.L})
			}
		}
	}
	return true
}

// place is where a list that is not empty lies, and its length: lists of one place have the same elements.
type place struct {
	first *Value
	n     int
}

func placeOf(l []Value) place { return place{&l[0], len(l)} }

// classes are lists that are the same unless a difference is found: each leads to another one of its class, but the
// class's last one, which is not in here.
type classes map[place]place

// join makes one class of those of x and y; false: it was one before.
func (c classes) join(x, y place) bool {
	x, y = c.last(x), c.last(y)
	if x == y {
		return false
	}
	c[x] = y
	return true
}

// last is the last one of x's class. It makes the way there shorter for whoever comes next.
func (c classes) last(x place) place {
	for {
		next, ok := c[x]
		if !ok {
			return x
		}
		if over, ok := c[next]; ok {
			c[x] = over
		}
		x = next
	}
}
