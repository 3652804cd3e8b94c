package scan

import (
	"strings"

	"armarium/api"
)

// state is what comes next of a request.
type state int

const (
	inMethod state = iota
	inSlash
	inPath
	inQuery
	inVersion
	inLineEnd // the LF of the first line, or of a head's
	inHead    // the first byte of a line behind such a LF
	inName
	inValue
	inHeadsEnd // the LF of the line of CR alone
	inBody
)

const (
	maxMethod = 10
	protocol  = "HTTP/1.1\r"
)

// ofFirst is the next byte of the first line.
func (s *Scan) ofFirst(t *text) int { return s.ofLine(t, api.MaxLine, tooLongLine) }

// ofHead is the next byte of a head's line.
func (s *Scan) ofHead(t *text) int { return s.ofLine(t, api.MaxHead, tooLargeHeads) }

// toVersion reads on up to the version; true: there, or behind that.
func (s *Scan) toVersion(t *text) bool {
	var c int
	switch s.state {
	case inMethod:
		goto method
	case inSlash:
		goto slash
	case inPath:
		goto path
	case inQuery:
		goto query
	}
	return true
method:
	switch c = s.ofFirst(t); {
	case isCapital(c) && len(s.part) < maxMethod:
		s.keep(c)
		goto method
	case c == ' ' && len(s.part) > 0:
		s.request.Method = s.cut()
		goto slash
	}
	return s.stop(inMethod, c)
slash:
	if c = s.ofFirst(t); c != '/' {
		return s.stop(inSlash, c)
	}
	s.keep(c)
path:
	switch c = s.ofFirst(t); {
	case c == '?':
		s.request.Path = s.cut()
		goto query
	case c == ' ':
		s.request.Path = s.cut()
		goto done
	case isOfTarget(c):
		s.keep(c)
		goto path
	}
	return s.stop(inPath, c)
query:
	switch c = s.ofFirst(t); {
	case c == ' ':
		s.request.Query = s.cut()
		goto done
	case isOfTarget(c):
		s.keep(c)
		goto query
	}
	return s.stop(inQuery, c)
done:
	s.state = inVersion
	return true
}

// toLineEnd reads on up to the LF of the first line; true: there, or behind that.
func (s *Scan) toLineEnd(t *text) bool {
	var c int
	if s.state != inVersion {
		return true
	}
version:
	if c = s.ofFirst(t); c != int(protocol[len(s.part)]) {
		return s.stop(inVersion, c)
	}
	if s.keep(c); len(s.part) < len(protocol) {
		goto version
	}
	s.cut()
	s.state = inLineEnd
	return true
}

// toHeadsEnd reads on up to the LF that ends the heads; true: there, or behind that.
func (s *Scan) toHeadsEnd(t *text) bool {
	var c int
	switch s.state {
	case inLineEnd:
		goto end
	case inHead:
		goto head
	case inName:
		goto name
	case inValue:
		goto value
	}
	return true
end:
	if c = t.next(); c != '\n' {
		return s.stop(inLineEnd, c)
	}
head:
	switch c = s.ofHead(t); {
	case c == '\r':
		s.state = inHeadsEnd
		return true
	case c != none && len(s.request.Heads) == api.MaxHeads:
		s.fail(tooLargeHeads)
		return false
	case isOfName(c):
		s.keep(c)
		goto name
	}
	return s.stop(inHead, c)
name:
	switch c = s.ofHead(t); {
	case isOfName(c):
		s.keep(c)
		goto name
	case c == ':':
		s.request.Heads = append(s.request.Heads, api.Head{Name: s.cut()})
		goto value
	}
	return s.stop(inName, c)
value:
	switch c = s.ofHead(t); {
	case isOfValue(c):
		s.keep(c)
		goto value
	case c == '\r':
		s.request.Heads[len(s.request.Heads)-1].Value = strings.Trim(s.cut(), " \t")
		goto end
	}
	return s.stop(inValue, c)
}

// toBody reads on up to the body, if the heads may be; true: there.
func (s *Scan) toBody(t *text) bool {
	if s.state != inHeadsEnd {
		return true
	}
	if c := t.next(); c != '\n' {
		return s.stop(inHeadsEnd, c)
	}
	if status := judge(s.request); status != 0 {
		s.fail(status)
		return false
	}
	s.state = inBody
	return true
}

// toEnd reads on up to the end of the body; true: there.
func (s *Scan) toEnd(t *text) bool {
	n := Length(s.request)
	s.part = append(s.part, t.take(n-len(s.part))...)
	return len(s.part) == n
}
