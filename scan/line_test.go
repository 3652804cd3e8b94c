package scan_test

import (
	"strings"
	"testing"

	"armarium/api"
)

func TestMethods(t *testing.T) {
	for k := range letters {
		one := letters[k : k+1]
		for _, m := range []string{one, one + one, "G" + one + "T", strings.Repeat(one, 10), letters[min(k, 16):][:10]} {
			tells(t, m+" / HTTP/1.1\r\n\r\n", api.Request{Method: m, Path: "/"})
		}
		fails(t, strings.Repeat("A", 10)+one, 400)
	}
	for n := 1; n <= 10; n++ {
		tells(t, letters[:n]+" / HTTP/1.1\r\n\r\n", api.Request{Method: letters[:n], Path: "/"})
	}
}

// TestBytesOfMethods has each byte that is no capital letter ahead of letters, and behind some.
func TestBytesOfMethods(t *testing.T) {
	for c := range 256 {
		b := string([]byte{byte(c)})
		if strings.Contains(letters, b) {
			continue
		}
		fails(t, b, 400)
		if b == " " {
			continue
		}
		for n := 1; n <= 10; n++ {
			fails(t, letters[:n]+b, 400)
		}
	}
}

// TestBytesOfPaths has each byte behind `/` and others.
func TestBytesOfPaths(t *testing.T) {
	for c := range 256 {
		b := string([]byte{byte(c)})
		for _, ahead := range []string{"/", "/a", "//", "/!~"} {
			switch {
			case b == "?" || b == " ":
			case visible(byte(c)) && b != "#":
				tells(t, "GET "+ahead+b+" HTTP/1.1\r\n\r\n", api.Request{Method: "GET", Path: ahead + b})
				tells(t, "GET "+ahead+b+"z? HTTP/1.1\r\n\r\n", api.Request{Method: "GET", Path: ahead + b + "z"})
			default:
				fails(t, "GET "+ahead+b, 400)
			}
		}
	}
}

// TestBytesOfQueries has each byte behind `?` and others.
func TestBytesOfQueries(t *testing.T) {
	for c := range 256 {
		b := string([]byte{byte(c)})
		for _, ahead := range []string{"", "?", "a", "a=b&c?", "/"} {
			switch {
			case b == " ":
				tells(t, "GET /p?"+ahead+" HTTP/1.1\r\n\r\n", api.Request{Method: "GET", Path: "/p", Query: ahead})
			case visible(byte(c)) && b != "#":
				tells(t, "GET /p?"+ahead+b+" HTTP/1.1\r\n\r\n", api.Request{Method: "GET", Path: "/p", Query: ahead + b})
				tells(t, "GET /?"+ahead+b+"z HTTP/1.1\r\n\r\n", api.Request{Method: "GET", Path: "/", Query: ahead + b + "z"})
			default:
				fails(t, "GET /p?"+ahead+b, 400)
			}
		}
	}
}

// TestFirstBytesOfTargets has each byte in the place of `/`.
func TestFirstBytesOfTargets(t *testing.T) {
	for c := range 256 {
		if c != '/' {
			fails(t, "GET "+string([]byte{byte(c)}), 400)
		}
	}
	for _, wrong := range []string{"GET *", "GET h", "GET ?", "GET  ", "GET /é"[:6], "GET /€"[:6], "GET /a b", "GET /?a b", "GET /? ?"} {
		fails(t, wrong, 400)
	}
}

func TestTargets(t *testing.T) {
	all := ""
	for c := byte(0x21); c <= 0x7e; c++ {
		if c != '#' {
			all += string(c)
		}
	}
	path := strings.ReplaceAll(all, "?", "")
	for _, x := range []struct{ target, path, query string }{
		{"/", "/", ""}, {"/?", "/", ""}, {"/??", "/", "?"}, {"/???", "/", "??"}, {"/a?b", "/a", "b"}, {"/a?b?c", "/a", "b?c"}, {"/?/", "/", "/"}, {"//", "//", ""},
		{"/" + path, "/" + path, ""}, {"/?" + all, "/", all}, {"/%20%3F", "/%20%3F", ""}, {"/HTTP/1.1", "/HTTP/1.1", ""}, {"/a?HTTP/1.1", "/a", "HTTP/1.1"},
	} {
		tells(t, "GET "+x.target+" HTTP/1.1\r\n\r\n", api.Request{Method: "GET", Path: x.path, Query: x.query})
	}
}

// TestVersions has each byte of the version at each other value, and each byte behind it.
func TestVersions(t *testing.T) {
	right := "HTTP/1.1\r\n"
	for _, ahead := range []string{"GET / ", "P /a?b "} {
		for k := range right {
			for c := range 256 {
				if byte(c) != right[k] {
					fails(t, ahead+right[:k]+string([]byte{byte(c)}), 400)
				}
			}
		}
	}
}

func TestBlanks(t *testing.T) {
	for _, wrong := range []string{
		" ", "GET  ", "GET\t", "GET / \r", "GET /  ", "GET /?  ", "GET / HTTP/1.1 ", "GET / HTTP/1.1\t", "GET\r", "GET\n", "GET /\r", "GET /\n", "GET /?\r", "GET /?\n",
		"GET/", "GET /\t", "GET /?a\t", "GET / \t", "GET / HTTP/1.1\r ", "GET /HTTP/1.1\r", "GET / HTTP/1.1\n", "GET / HTTP ", "GET / H ", "\r", "\n", "\t", "\x00",
	} {
		fails(t, wrong, 400)
		r := api.Request{Method: "PUT", Path: "/a", Query: "b", Heads: []api.Head{sized(1)}, Body: "x"}
		fails(t, text(r)+wrong, 400, r)
	}
}
