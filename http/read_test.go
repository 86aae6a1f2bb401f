package http_test

import (
	"strings"
	"testing"

	"stowage/api"
	"stowage/http"
)

// get is a first line.
const get = "GET / HTTP/1.1"

// chunked is all of a request ahead of its chunks.
const chunked = "PUT /c HTTP/1.1\r\ntransfer-encoding: chunked\r\n\r\n"

// The examples of the chapter.
func TestExample(t *testing.T) {
	tells(t, lines("GET /a?b HTTP/1.1", ""), api.Req{Method: "GET", Path: "/a", Query: "b"})
	tells(t, lines("PUT / HTTP/1.1", "content-length: 2", "")+"hi", api.Req{Method: "PUT", Path: "/", Body: "hi"})
	refuses(t, lines("BREW / HTTP/1.1"), api.ErrMethod)
}

// Promise 19.1: a line of as many bytes as may be, and one more, of each kind; whole, without an end, with one 13 at the very end.
func TestLongLines(t *testing.T) {
	for what, c := range map[string]struct {
		ahead, line, behind string // the line is filled up with a
		fill                string
	}{
		"first": {"", "GET /", " HTTP/1.1", "a"}, "head": {lines(get), "a: ", "", "b"}, "name": {lines(get), "", ":", "a"}, "blanks": {lines(get), "a:", "", " "},
		"chunk": {chunked, "1;", "", "a"}, "last": {chunked, "0;", "", "a"}, "tail": {chunked + lines("0"), "a: ", "", "b"}, "second": {lines(get, "") + lines(get), "a: ", "", "b"},
	} {
		told, size, _ := http.All(c.ahead)
		for _, n := range []int{2040, 2047, 2048, 2049, 2050, 2051, 4096, 10000} {
			line := c.line + rep(c.fill, n-len(c.line)-len(c.behind)) + c.behind
			want := api.OK
			if n > api.MaxLine {
				want = api.ErrHead
			}
			for _, end := range []string{"", "\r", "\r\n"} {
				l, at, e := reads(t, c.ahead+line+end)
				if e != want || len(l) != len(told) || at != size {
					t.Errorf("%s of %d bytes and %q: %d, %d, %v", what, n, end, len(l), at, e)
				}
			}
			if want != api.OK {
				refuses(t, c.ahead+line, want)
				refuses(t, c.ahead+line+"\r\n", want)
			}
			// Bytes that no line may have come behind that.
			for _, wrong := range []string{"\n", "\r", "\x00", "\xff"} {
				broken := c.ahead + line[:n-1] + wrong
				if n-1 > api.MaxLine {
					refuses(t, broken+"x\r\n", api.ErrHead)
				} else if n < api.MaxLine {
					if _, _, e := reads(t, broken+"x"); e != api.OK {
						t.Errorf("%s of %d bytes with %q, not whole: %v", what, n, wrong, e)
					}
					refuses(t, broken+"x\r\n", api.ErrBad)
				}
			}
		}
	}
	// Two 13 at the very end: one of them counts.
	for n, want := range map[int]api.Errno{2046: api.OK, 2047: api.OK, 2048: api.ErrHead} {
		if _, _, e := reads(t, rep("x", n)+"\r\r"); e != want {
			t.Errorf("%d bytes and two 13: %v", n, e)
		}
	}
	if _, _, e := reads(t, rep("x", 2048)+"\rx"); e != api.ErrHead {
		t.Errorf("a 13 that is not at the very end: %v", e)
	}
}

// Promise 19.1: a 13 or a 10 within a line, of each kind, at each place.
func TestEndsWithin(t *testing.T) {
	for _, c := range []struct{ ahead, line string }{
		{"", get}, {lines(get), "name: value"}, {lines(get), ""}, {chunked, "1f;x=y"}, {chunked, "0"}, {chunked + lines("0"), "a: b"}, {chunked + lines("0"), ""}, {chunked + "2\r\nhi\r\n", "0"},
	} {
		for _, wrong := range []string{"\n", "\r", "\n\n", "\n\r", "\r\r"} {
			for at := range len(c.line) + 1 {
				text := c.ahead + c.line[:at] + wrong + c.line[at:]
				if _, _, e := reads(t, text); e != api.OK {
					t.Errorf("%s, not whole: %v", brief(text), e)
				}
				if at < len(c.line) || !strings.HasSuffix(wrong, "\r") || wrong == "\r\r" {
					refuses(t, text+"\r\n", api.ErrBad)
				}
			}
		}
	}
	// A line that 10 alone ends is none.
	waits(t, "GET / HTTP/1.1\n\n")
	refuses(t, "GET / HTTP/1.1\n\n\r\n", api.ErrBad)
	waits(t, "\n\r")
	refuses(t, "\r\r\n", api.ErrBad)
}

// Promise 19.1: first lines, and what they say.
func TestFirstLine(t *testing.T) {
	for _, method := range []string{"GET", "HEAD", "PUT", "POST", "DELETE"} {
		tells(t, lines(method+" / HTTP/1.1", ""), api.Req{Method: method, Path: "/"})
	}
	for target, want := range map[string]api.Req{
		"/": {Path: "/"}, "/?": {Path: "/"}, "/a": {Path: "/a"}, "/a?b": {Path: "/a", Query: "b"}, "/a?b?c": {Path: "/a", Query: "b?c"}, "/??": {Path: "/", Query: "?"}, "/?/": {Path: "/", Query: "/"},
		"//": {Path: "//"}, "/%": {Path: "/%"}, "/%00": {Path: "/%00"}, "/a/b/?x=1&y=2": {Path: "/a/b/", Query: "x=1&y=2"}, "/:80": {Path: "/:80"}, "/~!\"$&'()*+,-.;<=>@[\\]^_`{|}": {Path: "/~!\"$&'()*+,-.;<=>@[\\]^_`{|}"},
	} {
		want.Method = "POST"
		tells(t, lines("POST "+target+" HTTP/1.1", ""), want)
	}
	for _, line := range []string{
		"", " ", "GET", "GET ", "GET /", "GET / ", "GET  HTTP/1.1", "GET HTTP/1.1", " / HTTP/1.1", "/ HTTP/1.1", "/", "HTTP/1.1", "GET /HTTP/1.1", "GET/ HTTP/1.1", "GET/HTTP/1.1",
		"GET  / HTTP/1.1", "GET /  HTTP/1.1", " GET / HTTP/1.1", "GET / HTTP/1.1 ", "GET\t/ HTTP/1.1", "GET /\tHTTP/1.1", "GET / HTTP/1.1\t", "GET / / HTTP/1.1", "GET / HTTP/1.1 HTTP/1.1",
		"GET / HTTP/1.0", "GET / HTTP/2", "GET / HTTP/1.10", "GET / http/1.1", "GET / HTTP/1,1", "GET / HTTP/1.", "GET / HTTP/01.1", "GET / HTTP 1.1", "GET / TTP/1.1",
		"get / HTTP/1.1", "Get / HTTP/1.1", "GEt / HTTP/1.1", "G-T / HTTP/1.1", "GET1 / HTTP/1.1", "G@T / HTTP/1.1", "G[T / HTTP/1.1", "brew / HTTP/1.1",
		"GET a HTTP/1.1", "GET ?a HTTP/1.1", "GET * HTTP/1.1", "GET http://a/ HTTP/1.1", "GET %2F HTTP/1.1", "GET # HTTP/1.1", "GET /# HTTP/1.1", "GET /a#b HTTP/1.1", "GET /a?b#c HTTP/1.1", "GET /a?# HTTP/1.1",
		"BREW x HTTP/1.1", "BREW / HTTP/1.0", "BREW /# HTTP/1.1", "BREW", rep("A", 17) + " / HTTP/1.1", rep("A", 100) + " / HTTP/1.1", "name: value",
	} {
		waits(t, line)
		refuses(t, lines(line), api.ErrBad)
	}
	for _, method := range []string{"A", "G", "BREW", "OPTIONS", "TRACE", "CONNECT", "PATCH", "GETS", "GE", "DELET", "DELETES", rep("A", 16), rep("Z", 16)} {
		waits(t, method+" / HTTP/1.1")
		refuses(t, lines(method+" / HTTP/1.1"), api.ErrMethod)
		refuses(t, lines(method+" /a?b HTTP/1.1", "no line"), api.ErrMethod)
	}
	for c := range 256 {
		want := api.OK
		if c < 33 || c > 126 || c == '#' {
			want = api.ErrBad
		}
		for _, line := range []string{"GET /" + one(c) + " HTTP/1.1", "GET /a?" + one(c) + "b HTTP/1.1", "GET /a" + one(c) + "b?c HTTP/1.1"} {
			if _, _, e := reads(t, lines(line)); e != want {
				t.Errorf("%q: %v, not %v", line, e, want)
			}
		}
		want = api.ErrBad
		if 'A' <= c && c <= 'Z' {
			want = api.ErrMethod
		}
		for _, line := range []string{one(c) + " / HTTP/1.1", "PUT" + one(c) + " / HTTP/1.1", "P" + one(c) + "TT / HTTP/1.1"} {
			if _, _, e := reads(t, lines(line)); e != want {
				t.Errorf("%q: %v, not %v", line, e, want)
			}
		}
	}
}

// Promise 19.1: lines of the head, and what they say.
func TestHead(t *testing.T) {
	for line, want := range map[string]api.Pair{
		"a:b": {Name: "a", Value: "b"}, "a: b": {Name: "a", Value: "b"}, "a:": {Name: "a"}, "a: ": {Name: "a"}, "a: \t \t": {Name: "a"}, "a:\t b c\t ": {Name: "a", Value: "b c"}, "a:b\tc": {Name: "a", Value: "b\tc"},
		"X-Token: T": {Name: "x-token", Value: "T"}, "a::b": {Name: "a", Value: ":b"}, "a: :": {Name: "a", Value: ":"}, "a: b: c": {Name: "a", Value: "b: c"}, "0!#$%&'*+-.^_`|~9: x": {Name: "0!#$%&'*+-.^_`|~9", Value: "x"},
		"content-lengths: x": {Name: "content-lengths", Value: "x"}, "content_length: x": {Name: "content_length", Value: "x"}, "x-connection: close": {Name: "x-connection", Value: "close"}, "HOST: A": {Name: "host", Value: "A"},
	} {
		tells(t, lines(get, line, ""), api.Req{Method: "GET", Path: "/", Heads: []api.Pair{want}})
		tells(t, chunked+lines("0", line, ""), api.Req{Method: "PUT", Path: "/c"})
	}
	for _, line := range []string{"a", ":", ":b", ": b", " : b", "a : b", "a\t: b", " a: b", "\ta: b", " b", "a b: c", "a/b: c", "a(b: c", "a[b]: c", "a\"b: c", "a{b: c", "a,b: c", "a;b: c", "a=b: c", "a@b: c", "ä: c", "a: ä", "a\x00: c", "a: \x00", "a: \x7f", "a: b\x1f", get} {
		waits(t, lines(get)+line)
		refuses(t, lines(get, line), api.ErrBad)
		refuses(t, lines(get, "x: y", line), api.ErrBad)
		refuses(t, chunked+lines("0", line), api.ErrBad)
		refuses(t, chunked+lines("0", "x: y", line), api.ErrBad)
	}
	tells(t, lines("DELETE /a HTTP/1.1", "B: 1", "a: 2", "b: 3", "A: 4", "b:", ""), api.Req{Method: "DELETE", Path: "/a", Heads: pairs("b", "1", "a", "2", "b", "3", "a", "4", "b", "")})
	for c := range 256 {
		inName, inValue := api.ErrBad, api.ErrBad
		if strings.Contains("ABCDEFGHIJKLMNOPQRSTUVWXYZabcdefghijklmnopqrstuvwxyz0123456789!#$%&'*+-.^_`|~", one(c)) {
			inName = api.OK
		}
		if c == ':' {
			inName = api.OK // there the value begins
		}
		if c >= 32 && c <= 126 || c == 9 {
			inValue = api.OK
		}
		for _, ahead := range []string{lines(get), chunked + lines("0")} {
			for line, want := range map[string]api.Errno{"a" + one(c) + "b: c": inName, "a" + one(c) + ": c": inName, "a: " + one(c): inValue, "a: b" + one(c) + "c": inValue, "a:" + one(c) + "b": inValue} {
				if _, _, e := reads(t, ahead+lines(line)); e != want {
					t.Errorf("%q: %v, not %v", line, e, want)
				}
			}
		}
	}
}

// Promise 19.1: as many lines of the head as may be, and one more; which of two errors is told of that one. Names that are no Heads are lines, too; lines behind the last chunk are counted anew.
func TestManyLines(t *testing.T) {
	tail := lines("PUT / HTTP/1.1", "transfer-encoding: chunked") + rep("x: y\r\n", 31) + lines("", "0")
	for _, ahead := range []string{lines(get), chunked + lines("0"), tail} {
		for _, line := range []string{"a: b\r\n", "connection: x\r\n"} {
			for _, n := range []int{0, 1, 31, 32} {
				if l, _, e := reads(t, ahead+rep(line, n)+"\r\n"); len(l) != 1 || e != api.OK {
					t.Errorf("%d lines: %d, %v", n, len(l), e)
				}
			}
			full := ahead + rep(line, 32)
			waits(t, full)
			waits(t, full+"a: b\r")
			for more, want := range map[string]api.Errno{"a: b": api.ErrHead, "a": api.ErrHead, ":": api.ErrHead, "\xff": api.ErrHead, "content-length: x": api.ErrHead, "transfer-encoding: x": api.ErrHead, "a\nb": api.ErrBad, "\r": api.ErrBad, rep("a", 2049): api.ErrHead, rep("a\n", 1025): api.ErrHead} {
				refuses(t, full+more+"\r\n", want)
			}
		}
	}
	var want []api.Pair
	for range 31 {
		want = append(want, api.Pair{Name: "a", Value: "b"})
	}
	tells(t, lines("PUT / HTTP/1.1")+rep("a: b\r\n", 20)+"content-length: 1\r\n"+rep("a: b\r\n", 11)+"\r\nx", api.Req{Method: "PUT", Path: "/", Heads: want, Body: "x"})
}

// Promise 19.1: content-length.
func TestLength(t *testing.T) {
	put := "PUT /a HTTP/1.1"
	for value, n := range map[string]int{"0": 0, "1": 1, "9": 9, "10": 10, "0000000000": 0, "0000000001": 1, "0000131072": 131072, "131072": 131072, "131071": 131071, "  7\t": 7, "\t007 ": 7} {
		for _, name := range []string{"content-length:", "Content-Length: ", "CONTENT-LENGTH:\t"} {
			body := rep("\r\n\x00x", 40000)[:n]
			tells(t, lines(put, name+value, "")+body, api.Req{Method: "PUT", Path: "/a", Body: body})
		}
	}
	for _, value := range []string{"", " ", "\t", "x", "-1", "+1", "1x", "x1", "1 1", "1,1", "1, 1", "0x1", "1.0", "1e3", "00000000000", "00000000001", "12345678901", "99999999999999999999999999", "1\t2", "a", "F", "½"} {
		refuses(t, lines(put, "content-length: "+value), api.ErrBad)
		refuses(t, lines(put, "x: y", "Content-Length:"+value), api.ErrBad)
	}
	for _, value := range []string{"131073", "0000131073", "131080", "200000", "1000000", "2147483648", "4294967296", "9999999999"} {
		waits(t, lines(put)+"content-length: "+value)
		refuses(t, lines(put, "content-length: "+value), api.ErrBody)
	}
	for _, first := range []string{"0", "1", "131072"} {
		for _, second := range []string{"0", "1", "131073", "x", "", "99999999999"} {
			refuses(t, lines(put, "content-length: "+first, "Content-Length: "+second), api.ErrBad)
		}
	}
	waits(t, lines(put, "content-length: 3", ""))
	waits(t, lines(put, "content-length: 3", "")+"ab")
	waits(t, lines(put, "content-length: 3"))
	if l, n, e := reads(t, lines("GET /a HTTP/1.1", "content-length: 3", "")+"abcd"); len(l) != 1 || l[0].Body != "abc" || n != 41 || e != api.OK {
		t.Errorf("a byte more than the body: %v, %d, %v", l, n, e)
	}
	// A body's bytes may be any, also those of another request; without a length there is none.
	inner := lines(get, "")
	tells(t, lines("POST / HTTP/1.1", "content-length: 18", "")+inner, api.Req{Method: "POST", Path: "/", Body: inner})
	if l, _, e := reads(t, lines("POST / HTTP/1.1", "")+inner); len(l) != 2 || l[0].Body != "" || e != api.OK {
		t.Errorf("no length: %v, %v", l, e)
	}
	refuses(t, lines("POST / HTTP/1.1", "")+"body\r\n", api.ErrBad)
}

// Promise 19.1: transfer-encoding, by itself and beside content-length.
func TestCoding(t *testing.T) {
	put := "PUT /a HTTP/1.1"
	for _, line := range []string{"transfer-encoding: chunked", "transfer-encoding:chunked", "Transfer-Encoding: Chunked\t", "TRANSFER-ENCODING: CHUNKED", "transfer-encoding: \tcHUNKEd "} {
		tells(t, lines(put, line, "", "3", "abc", "0", ""), api.Req{Method: "PUT", Path: "/a", Body: "abc"})
	}
	for _, value := range []string{"", "gzip", "identity", "chunked, chunked", "gzip, chunked", "chunked;q=1", "chunke", "chunkedd", "chun ked", "\"chunked\"", "chunked,", "0"} {
		waits(t, lines(put)+"transfer-encoding: "+value)
		refuses(t, lines(put, "transfer-encoding: "+value), api.ErrMethod)
		refuses(t, lines(put, "content-length: 1", "transfer-encoding: "+value), api.ErrMethod)
		refuses(t, lines(put, "transfer-encoding: chunked", "transfer-encoding: "+value), api.ErrBad)
	}
	refuses(t, lines(put, "transfer-encoding: chunked", "x: y", "Transfer-Encoding: chunked"), api.ErrBad)
	for _, both := range [][2]string{{"content-length: 1", "transfer-encoding: chunked"}, {"transfer-encoding: chunked", "content-length: 0"}, {"Content-Length: 0", "Transfer-Encoding: Chunked"}} {
		waits(t, lines(put, both[0], both[1]))
		waits(t, lines(put, both[0], "x: y", both[1])+"\r")
		refuses(t, lines(put, both[0], both[1], ""), api.ErrBad)
		refuses(t, lines(put, both[0], both[1], "a"), api.ErrBad)
		refuses(t, lines(put, both[0], both[1], "content-length: 131073"), api.ErrBad)
	}
	refuses(t, lines(put, "transfer-encoding: chunked", "content-length: 131073"), api.ErrBody)
	refuses(t, lines(put, "transfer-encoding: chunked", "content-length: x"), api.ErrBad)
}

// Promise 19.1: connection.
func TestConnection(t *testing.T) {
	for value, want := range map[string]bool{"close": true, "Close": true, "CLOSE": true, "cLoSe": true, " close\t": true, "": false, "keep-alive": false, "closed": false, "clos": false, "close, x": false, "close,": false, "c lose": false, "\"close\"": false} {
		for _, name := range []string{"connection: ", "Connection:", "CONNECTION:\t"} {
			tells(t, lines("PUT / HTTP/1.1", name+value, ""), api.Req{Method: "PUT", Path: "/", Close: want})
			tells(t, lines("PUT / HTTP/1.1", "connection: close", name+value, "x: y", ""), api.Req{Method: "PUT", Path: "/", Close: true, Heads: pairs("x", "y")})
			tells(t, lines("PUT / HTTP/1.1", name+value, "connection: x", name+value, ""), api.Req{Method: "PUT", Path: "/", Close: want})
		}
	}
	// Behind the last chunk it counts for nothing; and what comes behind a last request is read.
	tells(t, chunked+lines("0", "connection: close", ""), api.Req{Method: "PUT", Path: "/c"})
	if l, _, e := reads(t, lines(get, "connection: close", "", get, "")); len(l) != 2 || !l[0].Close || l[1].Close || e != api.OK {
		t.Errorf("a request behind a last one: %v, %v", l, e)
	}
}

// Promise 19.1: chunks.
func TestChunks(t *testing.T) {
	for _, c := range []struct{ chunks, body string }{
		{"0\r\n\r\n", ""}, {"00000000\r\n\r\n", ""}, {"0;a=b\r\n\r\n", ""}, {"0;\r\n\r\n", ""}, {"1\r\nx\r\n0\r\n\r\n", "x"}, {"00000001\r\nx\r\n00\r\n\r\n", "x"}, {"2\r\nhi\r\n1;\r\n!\r\n0\r\n\r\n", "hi!"},
		{"a\r\n0123456789\r\n0\r\n\r\n", "0123456789"}, {"0A\r\n0123456789\r\n0\r\n\r\n", "0123456789"}, {"1; a \t\"b\" ;~\r\nx\r\n0\r\n\r\n", "x"}, {"1;;\r\nx\r\n0\r\n\r\n", "x"}, {"2\r\n\r\n\r\n0\r\n\r\n", "\r\n"}, {"5\r\n0\r\n\r\n\r\n0\r\n\r\n", "0\r\n\r\n"},
		{"fF\r\n" + rep("\xff", 255) + "\r\n0\r\n\r\n", rep("\xff", 255)}, {"1\r\na\r\n0\r\nx: y\r\nX:\r\n\r\n", "a"}, {"0\r\ncontent-length: x\r\ntransfer-encoding: gzip\r\ncontent-length: 999999\r\n\r\n", ""},
	} {
		tells(t, chunked+c.chunks, api.Req{Method: "PUT", Path: "/c", Body: c.body})
		for i := range len(c.chunks) {
			waits(t, chunked+c.chunks[:i])
		}
	}
	for _, line := range []string{"", " ", "x", "g", "G", "-1", "+1", "0x1", "1 ", " 1", "\t1", "1\t", "1 ;a", "1x", ";", ";a", "000000000", "000000001", "123456789", "1,2", "1:2", "1;\x00", "1;\x7f", "1;\x1f", "1;ä", "0 ", "1_0", "1;a\x80"} {
		waits(t, chunked+line)
		refuses(t, chunked+line+"\r\n", api.ErrBad)
		refuses(t, chunked+"1\r\nx\r\n"+line+"\r\n", api.ErrBad)
	}
	for c := range 256 {
		digit, behind := api.ErrBad, api.ErrBad
		if strings.Contains("0123456789abcdefABCDEF;", one(c)) {
			digit = api.OK
		}
		if c >= 32 && c <= 126 || c == 9 {
			behind = api.OK
		}
		for line, want := range map[string]api.Errno{"1" + one(c): digit, "1;" + one(c): behind, "1;a" + one(c) + "b": behind} {
			if _, _, e := reads(t, chunked+line+"\r\n"); e != want {
				t.Errorf("a chunk's line %q: %v, not %v", line, e, want)
			}
		}
	}
}

// Promise 19.1: chunks whose bytes together are as many as may be, and one more.
func TestChunksTogether(t *testing.T) {
	full := rep("abcd", 1<<15)
	tells(t, chunked+"20000\r\n"+full+"\r\n0\r\n\r\n", api.Req{Method: "PUT", Path: "/c", Body: full})
	tells(t, chunked+"1FFFF\r\n"+full[:1<<17-1]+"\r\n1;\r\nd\r\n00;\r\na: b\r\n\r\n", api.Req{Method: "PUT", Path: "/c", Body: full})
	for _, c := range []string{"20001", "20000;", "ffffffff", "FFFFFFFF;a", "80000000", "7fffffff", "00020001", "100000"} {
		want := api.ErrBody
		if c == "20000;" {
			want = api.OK
		}
		if _, _, e := reads(t, chunked+c); e != api.OK {
			t.Errorf("a chunk of %s, not whole: %v", c, e)
		}
		if _, _, e := reads(t, chunked+c+"\r\n"); e != want {
			t.Errorf("a chunk of %s: %v", c, e)
		}
	}
	refuses(t, chunked+"20001\r\n", api.ErrBody)
	for _, c := range []struct {
		ahead int
		line  string
		want  api.Errno
	}{{1 << 17, "0", api.OK}, {1 << 17, "1", api.ErrBody}, {1 << 17, "1;x", api.ErrBody}, {1 << 17, "1 ", api.ErrBad}, {1<<17 - 1, "1", api.OK}, {1<<17 - 1, "2", api.ErrBody}, {1, "1ffff", api.OK}, {1, "20000", api.ErrBody}, {1, "ffffffff", api.ErrBody}, {1, "fffffffff", api.ErrBad}, {2, "20000;\x00", api.ErrBad}} {
		ahead := chunked
		for n := c.ahead; n > 0; n -= 1 << 16 {
			size := min(n, 1<<16)
			ahead += strings.TrimLeft("0"+hex(size), "0") + "\r\n" + full[:size] + "\r\n"
		}
		if _, _, e := reads(t, ahead+c.line+"\r\n"); e != c.want {
			t.Errorf("a chunk of %s behind %d bytes: %v", c.line, c.ahead, e)
		}
	}
}

// hex is a number in sixteens.
func hex(n int) string {
	s := ""
	for ; n > 0; n /= 16 {
		s = "0123456789abcdef"[n%16:n%16+1] + s
	}
	return s
}

// Promise 19.1: other bytes than 13 and 10 behind a chunk's: as soon as two are there, or the first one is another one.
func TestBehindChunks(t *testing.T) {
	for _, ahead := range []string{chunked + "1\r\na", chunked + "3\r\n\r\n\r", chunked + "1\r\na\r\n2\r\nbc"} {
		waits(t, ahead)
		waits(t, ahead+"\r")
		waits(t, ahead+"\r\n")
		for c := range 256 {
			if c != '\r' {
				refuses(t, ahead+one(c), api.ErrBad)
			}
			if c != '\n' {
				refuses(t, ahead+"\r"+one(c), api.ErrBad)
			}
		}
		refuses(t, ahead+rep("x", 3000), api.ErrBad)
		refuses(t, ahead+"\n\r\n", api.ErrBad)
	}
	// Behind the last one no 13 and 10 of its own: the empty line stands there.
	refuses(t, chunked+"0\r\nx\r\n", api.ErrBad)
	if l, n, e := reads(t, chunked+"0\r\n\r\n\r\n"); len(l) != 1 || n != len(chunked)+5 || e != api.ErrBad {
		t.Errorf("an empty line behind a request: %v, %d, %v", l, n, e)
	}
}

// Promise 19.1: what is wrong first, line by line, is told, whatever stands behind it.
func TestWhichError(t *testing.T) {
	wrong := []struct {
		text string
		e    api.Errno
	}{{"no", api.ErrBad}, {"content-length: 131073", api.ErrBody}, {"transfer-encoding: gzip", api.ErrMethod}, {rep("x", 2049), api.ErrHead}, {"a\nb: c", api.ErrBad}}
	for _, a := range wrong {
		for _, b := range wrong {
			refuses(t, lines(get, a.text, b.text, ""), a.e)
			refuses(t, lines("GET", a.text, b.text, ""), api.ErrBad)
			refuses(t, lines("BREW / HTTP/1.1", a.text, b.text, ""), api.ErrMethod)
			refuses(t, rep("x", 2049)+"\n"+lines("", a.text, b.text), api.ErrHead)
		}
		refuses(t, lines(get, rep("a: b\r\n", 32)+a.text, ""), map[bool]api.Errno{true: api.ErrBad, false: api.ErrHead}[a.text == "a\nb: c"])
	}
	// Of one line: too long ahead of a 10 within it, that ahead of what it is.
	refuses(t, lines("BREW /"+rep("x", 2048)+"\n HTTP/1.1"), api.ErrHead)
	refuses(t, lines("BREW /\n HTTP/1.1"), api.ErrBad)
	refuses(t, lines(get, "transfer-encoding: gzip\r"), api.ErrBad)
	refuses(t, lines(get, "content-length: 131073\n"), api.ErrBad)
	refuses(t, chunked+"20001\n\r\n", api.ErrBad)
	// Requests ahead of what is wrong are told beside it.
	for n := range 5 {
		l, at, e := reads(t, rep(lines(get, ""), n)+lines("BREW / HTTP/1.1", ""))
		if len(l) != n || at != 18*n || e != api.ErrMethod {
			t.Errorf("%d requests ahead: %d, %d, %v", n, len(l), at, e)
		}
	}
}

// Promise 19.1: nothing, and several requests one behind the other with the beginning of one more.
func TestSeveral(t *testing.T) {
	waits(t, "")
	one := lines("GET /a?b HTTP/1.1", "X-Token: t ", "")
	two := chunked + "2\r\nhi\r\n0\r\n\r\n"
	three := lines("POST /p HTTP/1.1", "content-length: 3", "Connection: Close", "") + "abc"
	want := []api.Req{{Method: "GET", Path: "/a", Query: "b", Heads: pairs("x-token", "t")}, {Method: "PUT", Path: "/c", Body: "hi"}, {Method: "POST", Path: "/p", Body: "abc", Close: true}}
	text := one + two + three
	ends := []int{0, len(one), len(one + two), len(text)}
	for i := range len(text) + 1 {
		whole := 0
		for whole < 3 && ends[whole+1] <= i {
			whole++
		}
		if l, n, e := reads(t, text[:i]); !sameReqs(l, want[:whole]) || n != ends[whole] || e != api.OK {
			t.Errorf("%d bytes: %v, %d, %v", i, l, n, e)
		}
	}
	for _, more := range []string{"G", "GET", "GET / HTTP/1.1", "GET / HTTP/1.1\r", "nothing yet", "\r", rep("x", 2048), chunked, chunked + "5\r\nabc"} {
		if l, n, e := reads(t, text+more); !sameReqs(l, want) || n != len(text) || e != api.OK {
			t.Errorf("and %q: %v, %d, %v", more, l, n, e)
		}
	}
	many := rep(text, 500)
	if l, n, e := http.All(many + "GE"); len(l) != 1500 || n != len(many) || e != api.OK || !sameReqs(l[1497:], want) {
		t.Errorf("many: %d, %d, %v", len(l), n, e)
	}
}
