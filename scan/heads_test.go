package scan_test

import (
	"strings"
	"testing"

	"armarium/api"
)

// head asks that a line behind the first one is that head.
func head(t *testing.T, row, name, value string) {
	t.Helper()
	r := api.Request{Method: "GET", Path: "/", Heads: []api.Head{{Name: name, Value: value}}}
	tells(t, line+row+"\r\n\r\n", r)
	r.Heads = []api.Head{{Name: "A", Value: "b"}, {Name: name, Value: value}, {Name: "Z"}}
	tells(t, line+"A:b\r\n"+row+"\r\nZ:\r\n\r\n"+line+end, r, api.Request{Method: "GET", Path: "/"})
}

// TestBytesOfNames has each byte as the first one of a name, and behind some.
func TestBytesOfNames(t *testing.T) {
	for c := range 256 {
		b := string([]byte{byte(c)})
		if inName(byte(c)) {
			for _, name := range []string{b, b + b, "a" + b, b + "Z", "9-" + b + "-9", strings.Repeat(b, 30)} {
				head(t, name+":v", name, "v")
			}
			continue
		}
		if b != "\r" {
			fails(t, line+b, 400)
			fails(t, line+"A:b\r\n"+b, 400)
		}
		if b != ":" {
			fails(t, line+"A"+b, 400)
			fails(t, line+"a9-"+b, 400)
			fails(t, line+"A:b\r\nContent-Length"+b, 400)
		}
	}
}

func TestNames(t *testing.T) {
	small := strings.ToLower(letters)
	for _, name := range []string{"-", "--", "0", "-0-", letters, small, "0123456789-", "X", "x", letters + small + "0123456789-", "Content-Lengt", "Content-Length-", "ContentLength", "Content--Length", "Transfer-Encodin", "Transfer-Encodings"} {
		head(t, name+": 17x", name, "17x")
	}
}

// TestBytesOfValues has each byte alone, ahead of others, between and behind them.
func TestBytesOfValues(t *testing.T) {
	for c := range 256 {
		b := string([]byte{byte(c)})
		for _, ahead := range []string{"", "a", " ", "\t", "a ", "a:b"} {
			switch {
			case b == "\r":
			case b == "\t" || b == " ":
				head(t, "N:"+ahead+b, "N", strings.Trim(ahead, " \t"))
				head(t, "N:"+ahead+b+"z", "N", strings.Trim(ahead+b+"z", " \t"))
			case visible(byte(c)):
				head(t, "N:"+ahead+b, "N", strings.Trim(ahead+b, " \t"))
				head(t, "N:"+ahead+b+"z", "N", strings.Trim(ahead+b+"z", " \t"))
			default:
				fails(t, line+"N:"+ahead+b, 400)
			}
		}
	}
}

func TestValues(t *testing.T) {
	for _, x := range []struct{ row, value string }{
		{"", ""}, {" ", ""}, {"\t", ""}, {" \t \t\t  ", ""}, {"a", "a"}, {" a", "a"}, {"\ta", "a"}, {"a ", "a"}, {"a\t", "a"}, {" \t a \t ", "a"}, {"a b", "a b"}, {"a\tb", "a\tb"},
		{"a  b", "a  b"}, {" a \t b\t", "a \t b"}, {":", ":"}, {"a:b", "a:b"}, {" :: ", "::"}, {"\t:\t", ":"}, {"#?/", "#?/"}, {"~!", "~!"}, {"a,b;c=\"d\"", "a,b;c=\"d\""}, {" HTTP/1.1 ", "HTTP/1.1"},
	} {
		head(t, "Name:"+x.row, "Name", x.value)
	}
}

// TestNumbersOfHeads has none to ten of them.
func TestNumbersOfHeads(t *testing.T) {
	for n := range 11 {
		r := api.Request{Method: "GET", Path: "/", Heads: heads(n)}
		tells(t, text(r), r)
		r.Heads = nil
		for range n {
			r.Heads = append(r.Heads, api.Head{Name: "A", Value: "b"})
		}
		tells(t, text(r)+text(r), r, r)
	}
}

// TestLengthHeads has a Content-Length at each place, in any case, with blanks, and with noughts ahead.
func TestLengthHeads(t *testing.T) {
	for n := 1; n <= 10; n++ {
		for k := range n {
			r := api.Request{Method: "PUT", Path: "/", Heads: heads(n), Body: "four"}
			r.Heads[k] = sized(4)
			tells(t, text(r)+line+end, r, api.Request{Method: "GET", Path: "/"})
		}
	}
	for _, name := range []string{"content-length", "CONTENT-LENGTH", "cONTENT-lENGTH", "Content-length", "CoNtEnT-LeNgTh"} {
		for _, x := range []struct{ row, value string }{{"2", "2"}, {"\t2", "2"}, {"2 ", "2"}, {" \t 2 \t", "2"}, {"02", "02"}, {"000002", "000002"}, {" 00002", "00002"}} {
			r := api.Request{Method: "PUT", Path: "/", Heads: []api.Head{{Name: name, Value: x.value}}, Body: "\r\n"}
			tells(t, "PUT / HTTP/1.1\r\n"+name+":"+x.row+"\r\n\r\n\r\n"+line+end, r, api.Request{Method: "GET", Path: "/"})
		}
	}
}

// TestEachByteOfLengthName has Content-Length and Transfer-Encoding with one byte turned: then they are other heads.
func TestEachByteOfLengthName(t *testing.T) {
	for _, name := range []string{"Content-Length", "Transfer-Encoding"} {
		for k := range name {
			for c := range 256 {
				if !inName(byte(c)) || strings.EqualFold(string([]byte{byte(c)}), name[k:k+1]) {
					continue
				}
				other := name[:k] + string([]byte{byte(c)}) + name[k+1:]
				tells(t, line+other+": 7\r\n\r\n", api.Request{Method: "GET", Path: "/", Heads: []api.Head{{Name: other, Value: "7"}}})
			}
			if k > 0 {
				for _, other := range []string{name[:k], name[k:], name[:k] + "-" + name[k:], name[:k] + name[k:k+1] + name[k:]} {
					tells(t, line+other+": 7\r\n\r\n", api.Request{Method: "GET", Path: "/", Heads: []api.Head{{Name: other, Value: "7"}}})
				}
			}
		}
	}
}
