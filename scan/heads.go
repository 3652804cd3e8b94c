package scan

import "armarium/api"

// What may be wrong.
const (
	badRequest    = 400
	tooLargeBody  = 413
	tooLongLine   = 414
	tooLargeHeads = 431
)

const (
	lengthName   = "Content-Length"
	transferName = "Transfer-Encoding"
	maxDigits    = 6
)

// Length is how many bytes the body has by the first Content-Length, 0 where there is none, or one that tells nothing.
func Length(r api.Request) int {
	v, _ := Value(r, lengthName)
	n, _ := number(v)
	return n
}

// Value is what the first head of that name has.
func Value(r api.Request, name string) (string, bool) {
	for _, h := range r.Heads {
		if alike(h.Name, name) {
			return h.Value, true
		}
	}
	return "", false
}

// judge is what is wrong with the heads, now that all of them are there; 0: nothing.
func judge(r api.Request) int {
	lengths := 0
	for _, h := range r.Heads {
		if alike(h.Name, transferName) {
			return badRequest
		}
		if !alike(h.Name, lengthName) {
			continue
		}
		lengths++
		if _, ok := number(h.Value); !ok || lengths > 1 {
			return badRequest
		}
	}
	if Length(r) > api.MaxBody {
		return tooLargeBody
	}
	return 0
}

// number is the number of 1 to 6 digits.
func number(s string) (int, bool) {
	if s == "" || len(s) > maxDigits {
		return 0, false
	}
	n := 0
	for _, c := range []byte(s) {
		if !isDigit(int(c)) {
			return 0, false
		}
		n = n*10 + int(c-'0')
	}
	return n, true
}

// alike tells whether two names are the same, whatever case their letters A to Z have.
func alike(a, b string) bool {
	if len(a) != len(b) {
		return false
	}
	for k := range len(a) {
		if small(a[k]) != small(b[k]) {
			return false
		}
	}
	return true
}

func small(c byte) byte {
	if isCapital(int(c)) {
		return c - 'A' + 'a'
	}
	return c
}
