package book

import (
	"slices"
	"strings"

	"armarium/api"
	"armarium/tome"
)

// Get is the version ver of the key, or what it has now where ver is 0.
func Get(s api.State, key string, ver int64) (api.Version, api.Errno) {
	v, ok := version(s, key, ver)
	if !ok {
		return api.Version{}, api.ErrNone
	}
	if v.Gone {
		return api.Version{}, api.ErrGone
	}
	return v, api.OK
}

// version is what Get asks for, whether it is gone or not.
func version(s api.State, key string, ver int64) (api.Version, bool) {
	k := slices.IndexFunc(s.L, func(e api.Entry) bool { return e.Key == key })
	if k < 0 || ver < 0 || len(s.L[k].Vs) == 0 {
		return api.Version{}, false
	}
	if ver > 0 {
		return tome.At(s.L[k], ver)
	}
	v, _ := tome.Now(s.L[k])
	return v, true
}

// Names are the first keys behind after that begin with prefix and are there now; are there more?
func Names(s api.State, prefix, after string, max int) ([]string, bool) {
	l := slices.DeleteFunc(behind(s, prefix, after), gone)
	l, more := page(l, max)
	names := []string{}
	for _, e := range l {
		names = append(names, e.Key)
	}
	return names, more
}

// gone tells whether e has nothing now.
func gone(e api.Entry) bool {
	_, there := tome.Now(e)
	return !there
}

// Versions are the first entries behind after that begin with prefix, those of keys that are gone too; are there more?
func Versions(s api.State, prefix, after string, max int) ([]api.Entry, bool) {
	l, more := page(behind(s, prefix, after), max)
	return copiedEntries(l), more
}

// behind are the entries behind after that begin with prefix. In a book that may not be they need not rise, and a key
// may be there twice: its first entry counts, as in Get.
func behind(s api.State, prefix, after string) []api.Entry {
	l := []api.Entry{}
	for _, e := range s.L {
		if strings.HasPrefix(e.Key, prefix) && e.Key > after {
			l = append(l, e)
		}
	}
	slices.SortStableFunc(l, func(a, b api.Entry) int { return strings.Compare(a.Key, b.Key) })
	return slices.CompactFunc(l, func(a, b api.Entry) bool { return a.Key == b.Key })
}

// page is the beginning of l that a page has, most entries at most; is there more of it?
func page(l []api.Entry, most int) ([]api.Entry, bool) {
	n := min(max(most, 1), api.MaxPage)
	if len(l) <= n {
		return l, false
	}
	return l[:n], true
}

// Told is what came of the request.
func Told(s api.State, req int64) (api.Result, bool) {
	for _, m := range s.Memos {
		if m.Req == req {
			return m.Res, true
		}
	}
	return api.Result{}, false
}
