package scan

// none stands for a byte, where there is none.
const none = -1

// text is what is left of the bytes that came.
type text string

// next is the next byte.
func (t *text) next() int {
	if *t == "" {
		return none
	}
	c := (*t)[0]
	*t = (*t)[1:]
	return int(c)
}

// take is the next n bytes, or as many as there are.
func (t *text) take(n int) string {
	n = min(n, len(*t))
	taken := (*t)[:n]
	*t = (*t)[n:]
	return string(taken)
}

// ofLine is the next byte of a line that has at most so many ahead of its CR; none, too, where it is one too many, of
// which status tells.
func (s *Scan) ofLine(t *text, most, status int) int {
	c := t.next()
	switch {
	case c == none:
	case c == '\r':
		s.line = 0
	case s.line == most:
		s.fail(status)
		return none
	default:
		s.line++
	}
	return c
}

func isCapital(c int) bool { return c >= 'A' && c <= 'Z' }

func isDigit(c int) bool { return c >= '0' && c <= '9' }

// isOfTarget tells the bytes of a Query; but for `?` they are those of a Path.
func isOfTarget(c int) bool { return c > ' ' && c <= '~' && c != '#' }

func isOfName(c int) bool {
	return isCapital(c) || c >= 'a' && c <= 'z' || isDigit(c) || c == '-'
}

func isOfValue(c int) bool { return c == '\t' || c >= ' ' && c <= '~' }
