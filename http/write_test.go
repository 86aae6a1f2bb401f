package http_test

import (
	"bufio"
	"io"
	library "net/http"
	"slices"
	"strconv"
	"strings"
	"testing"

	"stowage/api"
	"stowage/http"
)

// writes asks that a request is written as the chapter says, and read as it was, here and by the library.
func writes(t *testing.T, r api.Req, want string) {
	t.Helper()
	s, e := http.Write(r)
	if s != want || e != api.OK {
		t.Errorf("Write(%s): %s, %v, not %s", short(r), brief(s), e, brief(want))
	}
	tells(t, s, r)
	q, err := library.ReadRequest(bufio.NewReader(strings.NewReader(s)))
	if err != nil {
		return // it asks for more than the chapter does: escapes in targets
	}
	body, err := io.ReadAll(q.Body)
	if err != nil || string(body) != r.Body || q.Method != r.Method || q.Close != r.Close {
		t.Errorf("the library reads %s as %v, %d bytes, %v", brief(s), q, len(body), err)
	}
}

// wont asks that a request is not written.
func wont(t *testing.T, r api.Req) {
	t.Helper()
	if s, e := http.Write(r); s != "" || e != api.ErrForm {
		t.Errorf("Write(%s): %s, %v", short(r), brief(s), e)
	}
}

// Promise 19.3: requests with each of their pieces, and without.
func TestWrite(t *testing.T) {
	for _, method := range []string{"GET", "HEAD", "PUT", "POST", "DELETE"} {
		writes(t, api.Req{Method: method, Path: "/"}, lines(method+" / HTTP/1.1", ""))
	}
	for _, method := range []string{"", "get", "Get", "BREW", "PATCH", "GET ", " GET", "GE", "GETT", "GET /"} {
		wont(t, api.Req{Method: method, Path: "/"})
	}
	writes(t, api.Req{Method: "GET", Path: "/a", Query: "b"}, lines("GET /a?b HTTP/1.1", ""))
	writes(t, api.Req{Method: "GET", Path: "/a", Query: "b?c"}, lines("GET /a?b?c HTTP/1.1", ""))
	writes(t, api.Req{Method: "GET", Path: "/a/%", Query: "?"}, lines("GET /a/%?? HTTP/1.1", ""))
	writes(t, api.Req{Method: "PUT", Path: "/a", Body: "hi"}, lines("PUT /a HTTP/1.1", "content-length: 2", "")+"hi")
	writes(t, api.Req{Method: "PUT", Path: "/a", Close: true}, lines("PUT /a HTTP/1.1", "connection: close", ""))
	writes(t, api.Req{Method: "PUT", Path: "/a", Heads: pairs("b", "2", "a", "1", "b", "")}, lines("PUT /a HTTP/1.1", "b: 2", "a: 1", "b: ", ""))
	writes(t, api.Req{Method: "POST", Path: "/p", Query: "q=1", Heads: pairs("x-token", "t", "host", "h"), Body: "\r\n\r\n\x00\xff", Close: true}, lines("POST /p?q=1 HTTP/1.1", "content-length: 6", "x-token: t", "host: h", "connection: close", "")+"\r\n\r\n\x00\xff")
	writes(t, api.Req{Method: "GET", Path: "/", Heads: []api.Pair{}}, lines("GET / HTTP/1.1", ""))
}

// Promise 19.3: paths and queries, with each byte.
func TestWriteTargets(t *testing.T) {
	for _, path := range []string{"", "a", "a/", "?", "/?", "/a?b", "/a?", "/#", "/a b", " /", "/ ", "/\x00", "/\r\n", "/ä", "*", "http://a/"} {
		wont(t, api.Req{Method: "GET", Path: path})
		wont(t, api.Req{Method: "GET", Path: path, Query: "x"})
	}
	for c := range 256 {
		stands := c >= 33 && c <= 126 && c != '#'
		for _, r := range []api.Req{{Method: "GET", Path: "/" + one(c)}, {Method: "GET", Path: "/a" + one(c) + "b"}, {Method: "GET", Path: "/a", Query: one(c)}, {Method: "GET", Path: "/a", Query: "x" + one(c) + "y"}} {
			if stands && (c != '?' || r.Query != "") {
				target := r.Path
				if r.Query != "" {
					target += "?" + r.Query
				}
				writes(t, r, lines("GET "+target+" HTTP/1.1", ""))
			} else {
				wont(t, r)
			}
		}
	}
}

// Promise 19.3: heads that may be written, and that may not, in requests and in answers.
func TestWriteHeads(t *testing.T) {
	head := func(name, value string, fine bool) {
		t.Helper()
		for _, l := range [][]api.Pair{pairs(name, value), pairs("x", "y", name, value), pairs(name, value, "x", "y")} {
			text := ""
			for _, p := range l {
				text += p.Name + ": " + p.Value + "\r\n"
			}
			r := api.Req{Method: "GET", Path: "/", Heads: l}
			if !fine {
				wont(t, r)
				wontAnswer(t, 200, l, api.ErrForm)
				continue
			}
			writes(t, r, lines(get)+text+"\r\n")
			answers(t, 200, l, "", false, lines("HTTP/1.1 200 Status", "content-length: 0")+text+"\r\n")
		}
	}
	for _, name := range []string{"", "A", "aB", "X-Token", "a b", "a:", ":", "a ", " a", "a\t", "ä", "a\r\nb", "a(b)", "content-length", "transfer-encoding", "connection", "Content-Length"} {
		head(name, "v", false)
		head(name, "", false)
	}
	for _, name := range []string{"a", "0", "x-token", "content-lengths", "connection2", "xtransfer-encoding", "!#$%&'*+-.^_`|~"} {
		head(name, "v", true)
		head(name, "", true)
	}
	for _, value := range []string{" ", "\t", " v", "v ", "\tv", "v\t", " v ", "\r", "\n", "a\r\nb", "\x00", "v\x7f", "ä"} {
		head("a", value, false)
	}
	for _, value := range []string{"v", "a b", "a\tb", "a  b", ":", "a: b", "\"~\"", "close"} {
		head("a", value, true)
	}
	for c := range 256 {
		head("n"+one(c), "v", c >= 'a' && c <= 'z' || c >= '0' && c <= '9' || c > 0 && strings.Contains("!#$%&'*+-.^_`|~", one(c)))
		head("n", "v"+one(c)+"w", c >= 32 && c <= 126 || c == 9)
	}
}

// Promise 19.3: as many heads as may be written, and one more, beside a body and a close.
func TestWriteManyHeads(t *testing.T) {
	for _, n := range []int{29, 30, 31, 32, 33, 100} {
		l := slices.Repeat(pairs("a", "b"), n)
		r := api.Req{Method: "PUT", Path: "/", Heads: l, Body: "x", Close: true}
		if n > 30 {
			wont(t, r)
			wont(t, api.Req{Method: "GET", Path: "/", Heads: l})
			wontAnswer(t, 200, l, api.ErrForm)
			continue
		}
		writes(t, r, lines("PUT / HTTP/1.1", "content-length: 1")+rep("a: b\r\n", n)+lines("connection: close", "")+"x")
		answers(t, 200, l, "x", true, lines("HTTP/1.1 200 Status", "content-length: 1")+rep("a: b\r\n", n)+lines("connection: close", "")+"x")
	}
}

// Promise 19.3: lines of as many bytes as may be, and one more; bodies likewise.
func TestWriteLong(t *testing.T) {
	for _, n := range []int{2047, 2048, 2049, 5000} {
		path := "/" + rep("a", n-len("GET / HTTP/1.1"))
		query := rep("q", n-len("DELETE /a? HTTP/1.1"))
		value := pairs("name", rep("v", n-len("name: ")))
		name := pairs(rep("n", n-len(": ")), "")
		long := []api.Req{{Method: "GET", Path: path}, {Method: "DELETE", Path: "/a", Query: query}, {Method: "GET", Path: "/", Heads: value}, {Method: "GET", Path: "/", Heads: name}}
		for i, r := range long {
			if n > 2048 {
				wont(t, r)
				continue
			}
			writes(t, r, []string{lines("GET "+path+" HTTP/1.1", ""), lines("DELETE /a?"+query+" HTTP/1.1", ""), lines(get, "name: "+value[0].Value, ""), lines(get, name[0].Name+": ", "")}[i])
		}
		for _, l := range [][]api.Pair{value, name} {
			if n > 2048 {
				wontAnswer(t, 100, l, api.ErrForm)
			} else {
				answers(t, 100, l, "", false, lines("HTTP/1.1 100 Status", "content-length: 0", l[0].Name+": "+l[0].Value, ""))
			}
		}
	}
	full := rep("abcd", 1<<15)
	for _, n := range []int{0, 1, 1<<17 - 1, 1 << 17} {
		head := ""
		if n > 0 {
			head = "content-length: " + strconv.Itoa(n) + "\r\n"
		}
		writes(t, api.Req{Method: "PUT", Path: "/", Body: full[:n]}, "PUT / HTTP/1.1\r\n"+head+"\r\n"+full[:n])
	}
	wont(t, api.Req{Method: "PUT", Path: "/", Body: full + "x"})
	wont(t, api.Req{Method: "PUT", Path: "/", Body: full + full})
}

// answers asks that an answer is written as the chapter says, and is one to the library.
func answers(t *testing.T, code int, l []api.Pair, body string, last bool, want string) {
	t.Helper()
	s, e := http.Answer(code, l, body, last)
	if s != want || e != api.OK {
		t.Errorf("Answer(%d, %s, %s, %v): %s, %v, not %s", code, short(l), brief(body), last, brief(s), e, brief(want))
	}
	if code < 200 || code == 204 || code == 304 {
		return // these have no body there
	}
	a, err := library.ReadResponse(bufio.NewReader(strings.NewReader(s)), nil)
	if err != nil {
		t.Errorf("the library reads %s: %v", brief(s), err)
		return
	}
	got, err := io.ReadAll(a.Body)
	if err != nil || string(got) != body || a.StatusCode != code || a.Close != last || a.ContentLength != int64(len(body)) {
		t.Errorf("the library reads %s as %v, %d bytes, %v", brief(s), a, len(got), err)
	}
}

// wontAnswer asks that an answer is not written.
func wontAnswer(t *testing.T, code int, l []api.Pair, want api.Errno) {
	t.Helper()
	for _, body := range []string{"", "x"} {
		for _, last := range []bool{false, true} {
			if s, e := http.Answer(code, l, body, last); s != "" || e != want {
				t.Errorf("Answer(%d, %s): %s, %v, not %v", code, short(l), brief(s), e, want)
			}
		}
	}
}

// Promise 19.3: answers: codes, bodies, heads, the last one.
func TestAnswer(t *testing.T) {
	for _, code := range []int{100, 101, 200, 204, 307, 404, 507, 998, 999} {
		first := "HTTP/1.1 " + strconv.Itoa(code) + " Status"
		answers(t, code, nil, "", false, lines(first, "content-length: 0", ""))
		answers(t, code, nil, "", true, lines(first, "content-length: 0", "connection: close", ""))
		answers(t, code, []api.Pair{}, "no", false, lines(first, "content-length: 2", "")+"no")
		answers(t, code, pairs("a", "b"), "no", true, lines(first, "content-length: 2", "a: b", "connection: close", "")+"no")
		answers(t, code, pairs("x-version", "3", "etag", rep("0", 64)), "\r\n", false, lines(first, "content-length: 2", "x-version: 3", "etag: "+rep("0", 64), "")+"\r\n")
	}
	for _, code := range []int{-1 << 63, -200, -1, 0, 1, 20, 99, 1000, 1001, 2000, 1<<63 - 1} {
		wontAnswer(t, code, nil, api.ErrArg)
		wontAnswer(t, code, pairs("a", "b"), api.ErrArg)
		wontAnswer(t, code, pairs("A", "b"), api.ErrArg)
		wontAnswer(t, code, slices.Repeat(pairs("a", "b"), 31), api.ErrArg)
	}
	// A body of any length: objects are longer than what a request may bring.
	for _, n := range []int{1 << 17, 1<<17 + 1, 1 << 20} {
		body := rep("x", n)
		answers(t, 200, nil, body, false, lines("HTTP/1.1 200 Status", "content-length: "+strconv.Itoa(n), "")+body)
	}
}
