package scan_test

import (
	"fmt"
	"strings"
	"testing"

	"armarium/api"
	"armarium/scan"
)

// xs are n bytes.
func xs(n int) string { return strings.Repeat("x", n) }

// TestLongFirstLines has first lines of up to 200 bytes ahead of their CR, with and without a Query.
func TestLongFirstLines(t *testing.T) {
	for n := 190; n <= 200; n++ {
		path := "/" + xs(n-14)
		tells(t, "GET "+path+" HTTP/1.1\r\n\r\n", api.Request{Method: "GET", Path: path})
		tells(t, "A /?"+xs(n-13)+" HTTP/1.1\r\n\r\n", api.Request{Method: "A", Path: "/", Query: xs(n - 13)})
		tells(t, letters[:10]+" /a?"+xs(n-23)+" HTTP/1.1\r\n\r\n", api.Request{Method: letters[:10], Path: "/a", Query: xs(n - 23)})
	}
}

// TestFirstLineTooLong has the 201st byte in each part of a first line that is long enough, whatever byte it is.
func TestFirstLineTooLong(t *testing.T) {
	rows := []string{"GET /" + xs(195), "A /?" + xs(196), "GET /" + xs(194) + "?", "GET /" + xs(194) + " "}
	for k := range "HTTP/1.1" {
		rows = append(rows, "GET /"+xs(193-k)+" "+"HTTP/1.1"[:k+1], "A /?"+xs(194-k)+" "+"HTTP/1.1"[:k+1])
	}
	for _, row := range rows {
		if len(row) != 200 {
			t.Fatalf("%d bytes", len(row))
		}
		for c := range 256 {
			if c != '\r' {
				refuses(t, row+string([]byte{byte(c)}), 414)
			}
		}
		if !strings.HasSuffix(row, "HTTP/1.1") {
			fails(t, row+"\r", 400)
		}
		waits(t, row)
		fails(t, row+"x", 414)
	}
	// What is wrong ahead of it counts.
	fails(t, "GET /"+xs(194)+"#", 400)
	fails(t, "GET /"+xs(194)+"\r", 400)
	fails(t, "GET /"+xs(194)+"\n", 400)
}

// TestFirstLinesAreCounted has long first lines behind other requests, and long heads behind them.
func TestFirstLinesAreCounted(t *testing.T) {
	r := api.Request{Method: "PUT", Path: "/" + xs(186), Heads: []api.Head{{Name: "A", Value: xs(118)}, {Name: xs(119)}, sized(300)}, Body: bytesOf(300)}
	row := "PUT " + r.Path + " HTTP/1.1\r\nA:" + xs(118) + "\r\n" + xs(119) + ":\r\nContent-Length: 300\r\n\r\n" + r.Body
	tells(t, row, r)
	tells(t, row+row+row, r, r, r)
	fails(t, row+"GET /"+xs(196), 414, r)
	fails(t, row+row+"GET /"+xs(196), 414, r, r)
	fails(t, row+line+xs(121), 431, r)
}

// TestLongHeads has heads of up to 120 bytes ahead of their CR.
func TestLongHeads(t *testing.T) {
	for n := 110; n <= 120; n++ {
		for _, x := range []struct{ row, name, value string }{
			{"A:" + xs(n-2), "A", xs(n - 2)}, {xs(n-1) + ":", xs(n - 1), ""}, {xs(n-2) + ":y", xs(n - 2), "y"}, {"A:" + strings.Repeat(" ", n-2), "A", ""},
			{"A:" + strings.Repeat(" ", n-3) + "y", "A", "y"}, {"A:y" + strings.Repeat("\t", n-3), "A", "y"}, {xs(60) + ": " + strings.Repeat("y", n-62), xs(60), strings.Repeat("y", n-62)},
		} {
			head(t, x.row, x.name, x.value)
		}
	}
	r := api.Request{Method: "GET", Path: "/"}
	row := line
	for range 10 {
		r.Heads = append(r.Heads, api.Head{Name: "A", Value: xs(118)})
		row += "A:" + xs(118) + "\r\n"
	}
	tells(t, row+"\r\n", r)
}

// TestHeadTooLong has the 121st byte in each part of a head, whatever byte it is, in the first head and in others.
func TestHeadTooLong(t *testing.T) {
	for _, ahead := range []string{line, line + "A:b\r\n", line + "A:" + xs(118) + "\r\n", line + strings.Repeat("A:b\r\n", 9)} {
		for _, row := range []string{xs(120), xs(119) + ":", xs(118) + ":y", "A:" + xs(118), "A:" + strings.Repeat(" ", 118), "A:" + xs(117) + "\t"} {
			for c := range 256 {
				if c != '\r' {
					refuses(t, ahead+row+string([]byte{byte(c)}), 431)
				}
			}
			waits(t, ahead+row)
			fails(t, ahead+row+"x", 431)
		}
		fails(t, ahead+xs(120)+"\r", 400)
		fails(t, ahead+xs(119)+"\r", 400)
		fails(t, ahead+xs(119)+" ", 400)
		fails(t, ahead+"A:"+xs(117)+"\x00", 400)
		fails(t, ahead+"A:"+xs(117)+"\n", 400)
	}
}

// TestElevenHeads has each byte as the first one of an eleventh head.
func TestElevenHeads(t *testing.T) {
	rows := []string{line + strings.Repeat("A:b\r\n", 10), line + strings.Repeat("A:"+xs(118)+"\r\n", 10), line + strings.Repeat("-:\r\n", 10), line + strings.Repeat("A:b\r\n", 9) + "Content-Length: 301\r\n"}
	for _, row := range rows {
		for c := range 256 {
			if c != '\r' {
				refuses(t, row+string([]byte{byte(c)}), 431)
			}
		}
		fails(t, row+"\rA", 400)
	}
	for n := range 10 {
		fails(t, line+strings.Repeat("A:b\r\n", n)+":", 400)
		fails(t, line+strings.Repeat("A:b\r\n", n)+"\n", 400)
	}
}

// lengths are lines that make two Content-Length, or a strange one.
func lengths() []string {
	l := []string{"Content-Length: 1\r\nContent-Length: 1\r\n", "Content-Length: 0\r\nContent-Length: 0\r\n", "Content-Length: 1\r\nContent-Length: 2\r\n", "content-length:1\r\nA:b\r\nCONTENT-LENGTH:1\r\n", "Content-Length:\r\nContent-Length: 1\r\n", "Content-Length: 1\r\nContent-Length:\r\n", "Content-Length: 301\r\nContent-Length: 1\r\n", "Content-Length: 1\r\nContent-Length: 301\r\n", strings.Repeat("Content-Length: 1\r\n", 9)}
	for _, value := range []string{
		"", " ", "\t \t", "1234567", "0000000", "0000001", "0000301", "9999999", "10000000000000000000", "18446744073709551617", "+1", "-1", "-0", "1.0", "1,1", "1 1", "1\t1", "0x1", "1e2", "one", "1;", "1_0", "#", "/", ":", "a", "1/", "1:",
	} {
		l = append(l, "Content-Length:"+value+"\r\n", "A:b\r\ncOnTeNt-LeNgTh: "+value+" \r\nB:\r\n")
	}
	return l
}

// TestStrangeLengths asks that they are told at the LF that ends the heads, and not ahead of it.
func TestStrangeLengths(t *testing.T) {
	for _, row := range lengths() {
		fails(t, line+row+"\r\n", 400)
		waits(t, line+row)
		waits(t, line+row+"\r")
		fails(t, line+row+"\rx", 400)
		fails(t, line+row+"A:\n", 400)
		r := api.Request{Method: "PUT", Path: "/", Heads: []api.Head{sized(3)}, Body: "abc"}
		fails(t, text(r)+line+row+"\r\n", 400, r)
	}
	fails(t, line+"Content-Length: x\r\n"+strings.Repeat("A:b\r\n", 9)+"A", 431)
}

// TestBytesOfLengths has each byte in the place of each digit.
func TestBytesOfLengths(t *testing.T) {
	for c := range 256 {
		b := string([]byte{byte(c)})
		for _, x := range []struct{ ahead, behind string }{{"", ""}, {"0", ""}, {"", "2"}, {"0", "2"}, {"00000", ""}, {"", "00002"}} {
			row := line + "Content-Length: " + x.ahead + b + x.behind + "\r\n\r\n"
			asReckoned(t, row, len(row)-1)
			if visible(byte(c)) && (c < '0' || c > '9') {
				fails(t, row, 400)
			}
		}
	}
}

// TestTransferEncoding has one in each case, with and without a Content-Length on either side.
func TestTransferEncoding(t *testing.T) {
	for _, name := range []string{"Transfer-Encoding", "transfer-encoding", "TRANSFER-ENCODING", "tRANSFER-eNCODING", "Transfer-ENCODING", "tRaNsFeR-eNcOdInG"} {
		for _, value := range []string{"", "chunked", "identity", "0", "7"} {
			for _, row := range []string{"%s", "Content-Length: 0\r\n%s", "%sContent-Length: 0\r\n", "Content-Length: 3\r\n%s", "Content-Length: 301\r\n%s", "%sContent-Length: 999999\r\n", "A:b\r\n%sC:d\r\n", "%sContent-Length: x\r\n"} {
				all := line + fmt.Sprintf(row, name+": "+value+"\r\n")
				fails(t, all+"\r\n", 400)
				waits(t, all+"\r")
			}
		}
	}
	fails(t, line+strings.Repeat("A:b\r\n", 9)+"Transfer-Encoding: chunked\r\n\r\n", 400)
}

// TestTooLongBodies has sizes around the greatest one.
func TestTooLongBodies(t *testing.T) {
	for _, size := range []string{"301", "302", "310", "399", "400", "999", "1000", "3000", "00301", "000301", "000999", "100000", "999999", "65536", "65537", "131072", "131073", "262144"} {
		for _, row := range []string{"Content-Length: " + size + "\r\n", "A:b\r\nCONTENT-length:\t" + size + " \r\nC:\r\n"} {
			fails(t, line+row+"\r\n", 413)
			waits(t, line+row)
			waits(t, line+row+"\r")
			fails(t, line+row+"\r ", 400)
			fails(t, text(requests()[5])+line+row+"\r\n", 413, requests()[5])
			fails(t, line+row+"Content-Length: "+size+"\r\n\r\n", 400)
		}
	}
	for _, size := range []string{"300", "0300", "00300", "000300", "299", "000299"} {
		r := api.Request{Method: "PUT", Path: "/", Heads: []api.Head{{Name: "Content-Length", Value: size}}, Body: bytesOf(300)}
		if strings.HasSuffix(size, "299") {
			r.Body = r.Body[:299]
		}
		tells(t, text(r), r)
		fails(t, text(r)+"x", 400, r)
	}
}

// TestWhatIsWrongStays has all that can be wrong, and behind it all else that can be wrong, and what is right.
func TestWhatIsWrongStays(t *testing.T) {
	rows := []struct {
		text   string
		status int
	}{
		{"x", 400}, {"GET /" + xs(196), 414}, {line + "A:" + xs(119), 431}, {line + strings.Repeat("A:b\r\n", 11), 431}, {line + "Content-Length: 301\r\n\r\n", 413}, {line + "Transfer-Encoding:\r\n\r\n", 400},
	}
	for _, a := range rows {
		for _, ahead := range []string{"", line + end, text(requests()[8])} {
			s := scan.New()
			told := len(s.Feed(ahead + a.text + line + end))
			if told != min(1, len(ahead)) || s.Status() != a.status || !s.Idle() {
				t.Fatalf("P15.1: %.60q: %d, %d", ahead+a.text, s.Status(), told)
			}
			for _, b := range rows {
				if l := s.Feed(line + end + b.text); len(l) != 0 || s.Status() != a.status || !s.Idle() {
					t.Fatalf("P15.1: %.60q, then %.60q: %d, %q", ahead+a.text, b.text, s.Status(), l)
				}
			}
		}
	}
}

// TestToldAheadOfWrong asks for what was whole by the very call that has what is wrong.
func TestToldAheadOfWrong(t *testing.T) {
	var l []api.Request
	row := ""
	for _, r := range requests() {
		l, row = append(l, r), row+text(r)
		for _, wrong := range []string{"x", "GET /#", line + "\n", line + ":", line + "Content-Length: 1\r\nContent-Length: 1\r\n\r\n", "\r\n"} {
			s := scan.New()
			if got := s.Feed(row + wrong + line + end); !same(got, l) || s.Status() != 400 || !s.Idle() {
				t.Errorf("P15.1: %d requests, then %q: %d, %q", len(l), wrong, s.Status(), got)
			}
		}
	}
}
