package http_test

import (
	"testing"

	"stowage/api"
	"stowage/http"
)

// next asks a reader for the next request.
func next(t *testing.T, r *http.Reader, want api.Req, is bool, wrong api.Errno) {
	t.Helper()
	if q, there, e := r.Next(); !sameReq(q, want) || there != is || e != wrong {
		t.Errorf("Next: %s, %v, %v, not %s, %v, %v", short(q), there, e, short(want), is, wrong)
	}
}

// feed hands a reader bytes.
func feed(t *testing.T, r *http.Reader, b string, want api.Errno) {
	t.Helper()
	if e := r.Feed(b); e != want {
		t.Errorf("Feed(%s): %v, not %v", brief(b), e, want)
	}
}

// Promise 19.2: a reader that was fed nothing, a request in pieces, several in one.
func TestReader(t *testing.T) {
	r := http.New()
	next(t, r, api.Req{}, false, api.OK)
	feed(t, r, "", api.OK)
	next(t, r, api.Req{}, false, api.OK)
	feed(t, r, "PUT /a HT", api.OK)
	next(t, r, api.Req{}, false, api.OK)
	next(t, r, api.Req{}, false, api.OK)
	feed(t, r, "TP/1.1\r\ncontent-length: 4\r", api.OK)
	next(t, r, api.Req{}, false, api.OK)
	feed(t, r, "\nx: y\r\n\r\nab", api.OK)
	next(t, r, api.Req{}, false, api.OK)
	feed(t, r, "cd"+lines("GET /b HTTP/1.1", "", "HEAD /c?d HTTP/1.1", "connection: close", "")+chunked+"1\r\nx", api.OK)
	next(t, r, api.Req{Method: "PUT", Path: "/a", Heads: pairs("x", "y"), Body: "abcd"}, true, api.OK)
	next(t, r, api.Req{Method: "GET", Path: "/b"}, true, api.OK)
	feed(t, r, "\r\n0\r\n", api.OK)
	next(t, r, api.Req{Method: "HEAD", Path: "/c", Query: "d", Close: true}, true, api.OK)
	next(t, r, api.Req{}, false, api.OK)
	feed(t, r, "\r", api.OK)
	next(t, r, api.Req{}, false, api.OK)
	feed(t, r, "\n", api.OK)
	next(t, r, api.Req{Method: "PUT", Path: "/c", Body: "x"}, true, api.OK)
	next(t, r, api.Req{}, false, api.OK)
}

// Promise 19.2: what was fed ahead of a refusal is told first; behind it nothing is, and nothing is taken.
func TestRefusal(t *testing.T) {
	for text, want := range map[string]api.Errno{lines("no"): api.ErrBad, lines("BREW / HTTP/1.1"): api.ErrMethod, rep("x", 2049): api.ErrHead, lines(get, "content-length: 131073"): api.ErrBody, chunked + "1\r\nab": api.ErrBad} {
		r := http.New()
		feed(t, r, lines(get, "")+lines("PUT /a HTTP/1.1", "")+text, api.OK)
		feed(t, r, lines(get, ""), api.OK) // nobody has asked, and nothing is refused yet
		next(t, r, api.Req{Method: "GET", Path: "/"}, true, api.OK)
		feed(t, r, "more", api.OK)
		next(t, r, api.Req{Method: "PUT", Path: "/a"}, true, api.OK)
		feed(t, r, "", api.OK)
		for range 4 {
			next(t, r, api.Req{}, false, want)
			next(t, r, api.Req{}, false, want)
			feed(t, r, "", api.ErrShut)
			feed(t, r, lines(get, ""), api.ErrShut)
			feed(t, r, rep("x", 5000), api.ErrShut)
		}
	}
}

// Promise 19.2: a reader that is nil, and one that New did not make.
func TestNoReader(t *testing.T) {
	var none *http.Reader
	for _, r := range []*http.Reader{none, {}, new(http.Reader)} {
		for range 2 {
			next(t, r, api.Req{}, false, api.ErrArg)
			feed(t, r, "", api.ErrArg)
			feed(t, r, lines(get, ""), api.ErrArg)
			feed(t, r, lines("no"), api.ErrArg)
		}
	}
}

// Promise 19.2: readers know nothing of one another, however their calls stand among each other.
func TestReadersApart(t *testing.T) {
	a, b, c := http.New(), http.New(), http.New()
	for i := range len(get) {
		feed(t, a, get[i:i+1], api.OK)
		feed(t, b, "x", api.OK)
		next(t, a, api.Req{}, false, api.OK)
	}
	feed(t, b, "\r\n", api.OK)
	next(t, b, api.Req{}, false, api.ErrBad)
	feed(t, a, "\r\n\r\n", api.OK)
	next(t, a, api.Req{Method: "GET", Path: "/"}, true, api.OK)
	next(t, b, api.Req{}, false, api.ErrBad)
	next(t, c, api.Req{}, false, api.OK)
	feed(t, c, lines(get, ""), api.OK)
	next(t, c, api.Req{Method: "GET", Path: "/"}, true, api.OK)
}

// Promise 19.4: a request with as many bytes as may be, byte by byte, asked for behind each; chunks of one byte, too.
func TestByteByByte(t *testing.T) {
	full := rep("abcdefgh", 1<<14)
	for _, text := range []string{lines("PUT /f HTTP/1.1", "content-length: 131072", "") + full, "PUT /f HTTP/1.1\r\ntransfer-encoding: chunked\r\n\r\n" + rep("1\r\nx\r\n", 1<<17) + "0\r\n\r\n"} {
		r := http.New()
		for i := range len(text) {
			if e := r.Feed(text[i : i+1]); e != api.OK {
				t.Fatalf("Feed of the byte %d: %v", i, e)
			}
			q, is, e := r.Next()
			if e != api.OK || is != (i == len(text)-1) || is && len(q.Body) != 1<<17 {
				t.Fatalf("Next behind the byte %d of %d: %v, %v", i, len(text), is, e)
			}
		}
		next(t, r, api.Req{}, false, api.OK)
	}
}

// Promise 19.4: three requests, cut at each two places; what is told of a beginning begins what is told of all.
func TestCutAnywhere(t *testing.T) {
	text := lines("GET /a?b HTTP/1.1", "X-Token: t ", "") + chunked + "2;x\r\nhi\r\n0\r\nA: b\r\n\r\n" + lines("POST /p HTTP/1.1", "content-length: 3", "") + "a\r\n"
	for _, end := range []string{"", "no\r\n", "GET / HT", lines("BREW / HTTP/1.1")} {
		all := text + end
		want, _, wrong := http.All(all)
		if len(want) != 3 {
			t.Fatalf("%d requests", len(want))
		}
		for i := range len(all) + 1 {
			some, n, e := http.All(all[:i])
			if !sameReqs(some, want[:len(some)]) || n > i || e != api.OK && e != wrong || e != api.OK && len(some) != 3 {
				t.Errorf("the first %d: %v, %d, %v", i, some, n, e)
			}
			for j := i; j <= len(all); j += 7 {
				if l, e := fed(t, all[:i], all[i:j], all[j:]); !sameReqs(l, want) || e != wrong {
					t.Errorf("cut at %d and %d: %v, %v", i, j, l, e)
				}
			}
		}
	}
}
