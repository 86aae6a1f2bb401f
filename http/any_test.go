package http_test

import (
	"math/rand"
	"runtime"
	"slices"
	"strings"
	"testing"

	"stowage/api"
	"stowage/http"
)

// drawnRequest is a request that may be written, mostly.
func drawnRequest(r *rand.Rand) api.Req {
	q := api.Req{Method: []string{"GET", "HEAD", "PUT", "POST", "DELETE"}[r.Intn(5)], Close: r.Intn(4) == 0}
	q.Path = "/" + drawn(r, 4, "a", "/", "%20", "~", "!")
	q.Query = drawn(r, 3, "b", "=", "&", "?", "/")
	for range r.Intn(4) {
		p := api.Pair{Name: "n" + drawn(r, 3, "a", "-", "0", "!"), Value: "v" + drawn(r, 3, " v", "\tw", ":", "x")}
		q.Heads = append(q.Heads, p)
	}
	q.Body = drawn(r, 6, "x", "\r\n", "\x00", "\xff", "0\r\n\r\n", "GET / HTTP/1.1\r\n\r\n")
	switch r.Intn(40) {
	case 0:
		q.Method = "BREW"
	case 1:
		q.Path += "?"
	case 2:
		q.Query += "#"
	case 3:
		q.Heads = append(q.Heads, api.Pair{Name: "connection", Value: "x"})
	case 4:
		q.Heads = append(q.Heads, api.Pair{Name: "n", Value: "x "})
	case 5:
		q.Heads = slices.Repeat(pairs("a", "b"), 31)
	case 6:
		q.Path += rep("p", 2048)
	}
	return q
}

// inChunks is a written request's body in chunks.
func inChunks(r *rand.Rand, text, body string) string {
	head, _, _ := strings.Cut(text, "\r\n\r\n")
	var kept []string
	for _, line := range strings.Split(head, "\r\n") {
		if !strings.HasPrefix(line, "content-length") {
			kept = append(kept, line)
		}
	}
	s := strings.Join(kept, "\r\n") + "\r\n" + []string{"Transfer-Encoding:chunked", "transfer-encoding: CHUNKED\t"}[r.Intn(2)] + "\r\n\r\n"
	for body != "" {
		n := 1 + r.Intn(len(body))
		s += rep("0", r.Intn(3)) + hex(n) + drawn(r, 1, ";", ";x=y", ";\t ") + "\r\n" + body[:n] + "\r\n"
		body = body[n:]
	}
	return s + rep("0", 1+r.Intn(8)) + "\r\n" + drawn(r, 2, "A: b\r\n", "content-length: x\r\n", "connection: close\r\n") + "\r\n"
}

// pieces are a text, cut at drawn places.
func pieces(r *rand.Rand, text string) []string {
	var l []string
	for text != "" {
		n := min(1+r.Intn(1+r.Intn(40)), len(text))
		l = append(l, text[:n])
		text = text[n:]
	}
	return l
}

// Promise 19.4: drawn requests are written, or refused, and read as they were, with a length and in chunks, several behind each other, in drawn pieces.
func TestWrittenIsRead(t *testing.T) {
	r := rand.New(rand.NewSource(1))
	refused := 0
	for range 4000 {
		var want []api.Req
		all := ""
		for range r.Intn(5) {
			q := drawnRequest(r)
			s, e := http.Write(q)
			if e != api.OK {
				refused++
				if s != "" || e != api.ErrForm {
					t.Errorf("Write(%s): %q, %v", short(q), s, e)
				}
				continue
			}
			if r.Intn(2) == 0 {
				s = inChunks(r, s, q.Body)
			}
			want = append(want, q)
			all += s
		}
		if l, n, e := http.All(all); !sameReqs(l, want) || n != len(all) || e != api.OK {
			t.Fatalf("All(%q): %v, %d, %v, not %v", all, l, n, e, want)
		}
		if l, e := fed(t, pieces(r, all)...); !sameReqs(l, want) || e != api.OK {
			t.Fatalf("pieces of %q: %v, %v, not %v", all, l, e, want)
		}
	}
	if refused < 500 {
		t.Errorf("%d refused", refused)
	}
}

// changed is a text with some bytes changed, put in, or left out.
func changed(r *rand.Rand, text string) string {
	for range 1 + r.Intn(2) {
		at := r.Intn(len(text) + 1)
		behind := min(len(text), at+r.Intn(3))
		text = text[:at] + drawn(r, 1, "\r", "\n", "\r\n", " ", "\t", "a", "A", ":", "0", "1", ";", "#", "\x00", "\xff", "/", "?", "g") + text[behind:]
	}
	return text
}

// Promises 19.1 and 19.4: drawn texts, most of them almost requests, are read as the plain reading does, at once and in drawn pieces; what is told of a beginning begins what is told of all, and a refusal stays.
func TestAny(t *testing.T) {
	r := rand.New(rand.NewSource(2))
	met := map[api.Errno]int{}
	for range 30000 {
		text := drawn(r, 8, get+"\r\n", "PUT /a?b HTTP/1.1\r\n", "POST /", " ", "HTTP/1.1", "\r\n", "\r\n\r\n", "content-length: 3\r\n", "Content-Length:0\r\n", "transfer-encoding: chunked\r\n", "connection: close\r\n", "a: b\r\n", "3\r\nabc\r\n", "0\r\n", "x", "\r", "\n", "20000\r\n", "BREW / HTTP/1.1\r\n", "content-length: 131073\r\n")
		if r.Intn(3) > 0 {
			text = ""
			for range 1 + r.Intn(3) {
				q := drawnRequest(r)
				if s, e := http.Write(q); e == api.OK {
					if r.Intn(2) == 0 {
						s = inChunks(r, s, q.Body)
					}
					text += s
				}
			}
			text = changed(r, text)
		}
		want, size, wrong := plainAll(text)
		met[wrong]++
		l, n, e := http.All(text)
		if !sameReqs(l, want) || n != size || e != wrong {
			t.Fatalf("All(%q): %v, %d, %v, not %v, %d, %v", text, l, n, e, want, size, wrong)
		}
		if l, e := fed(t, pieces(r, text)...); !sameReqs(l, want) || e != wrong {
			t.Fatalf("pieces of %q: %v, %v, not %v, %v", text, l, e, want, wrong)
		}
		some, n, e := http.All(text[:r.Intn(len(text)+1)])
		if len(some) > len(want) || !sameReqs(some, want[:len(some)]) || n > size || e != api.OK && (e != wrong || len(some) != len(want)) {
			t.Fatalf("a beginning of %q: %v, %d, %v", text, some, n, e)
		}
	}
	for _, e := range []api.Errno{api.OK, api.ErrBad, api.ErrBody, api.ErrMethod} {
		if met[e] < 30 {
			t.Errorf("%v was met %d times", e, met[e])
		}
	}
}

// Rule R3: what is handed in is not changed, and what is answered is of its own memory: not an argument's, not the reader's, not another answer's.
func TestSharesNothing(t *testing.T) {
	text := strings.Clone(lines("PUT /path?query HTTP/1.1", "name: value", "other: thing", "content-length: 4", "") + "body" + "POST /chunks HTTP/1.1\r\ntransfer-encoding: chunked\r\n\r\n3\r\nabc\r\n3\r\ndef\r\n0\r\n\r\n")
	was := string([]byte(text))
	var kept []any // so that no memory is another one's later on
	keep := func(v any) { kept = append(kept, v) }
	keep(text)
	for range 2 {
		l, _, _ := http.All(text)
		for _, q := range l {
			keep(q)
		}
		r := http.New()
		r.Feed(text)
		r.Feed(text)
		for range 4 {
			q, is, _ := r.Next()
			if !is || len(q.Body) < 4 {
				t.Fatalf("Next: %v", q)
			}
			keep(q)
		}
		r.Feed(text)
	}
	apart(t, kept...)
	// What a reader tells stays as it was, whatever it is fed behind it.
	r := http.New()
	r.Feed(text[:len(text)-2])
	first, _, _ := r.Next()
	r.Feed("\r\n")
	second, is, _ := r.Next()
	for range 50 {
		r.Feed(lines("DELETE /other HTTP/1.1", "x: y", ""))
		r.Next()
	}
	want, _, _ := http.All(was)
	if !is || !sameReqs([]api.Req{first, second}, want) || text != was {
		t.Errorf("the requests are %v, %v; the text %q", first, second, text)
	}
	// Lists of what is written stay, with the room behind them.
	heads := pairs("name", "value", "other", "thing", "behind", "it")
	made := slices.Clone(heads)
	q := api.Req{Method: "PUT", Path: strings.Clone("/path"), Query: strings.Clone("query"), Heads: heads[:2], Body: strings.Clone("body"), Close: true}
	kept = nil
	keep(q)
	for range 2 {
		s, _ := http.Write(q)
		keep(s)
		s, _ = http.Answer(200, q.Heads, q.Body, true)
		keep(s)
		s, _ = http.Answer(200, nil, q.Body, false)
		keep(s)
	}
	apart(t, kept...)
	if !slices.Equal(heads, made) || q.Path != "/path" || q.Query != "query" || q.Body != "body" {
		t.Errorf("what was handed in is %v, and the list %v", q, heads)
	}
	// A list that the caller changes is its own.
	all, _, _ := http.All(text + text)
	all[0].Heads[0] = api.Pair{}
	all[0].Heads = append(all[0].Heads[:1], api.Pair{Name: "x"})
	if all[2].Heads[0] != (api.Pair{Name: "name", Value: "value"}) || len(all[2].Heads) != 2 {
		t.Errorf("a change of one request's heads came to another one: %v", all[2])
	}
	runtime.KeepAlive(kept)
}

// Any bytes are read as the plain reading does, in any two pieces; and what was read is written and read again.
func FuzzRead(f *testing.F) {
	for _, s := range []string{"", get, lines(get, ""), lines("PUT /a?b HTTP/1.1", "content-length: 2", "x: y", "") + "hi", chunked + "2;x\r\nhi\r\n0\r\na: b\r\n\r\n", lines("BREW / HTTP/1.1"), rep("x", 2049), "\r\r\n", chunked + "20001\r\n", lines(get, "connection: Close", "")} {
		f.Add(s, len(s)/2)
	}
	f.Fuzz(func(t *testing.T, s string, at int) {
		want, size, wrong := plainAll(s)
		l, n, e := http.All(s)
		if !sameReqs(l, want) || n != size || e != wrong {
			t.Errorf("All(%q): %v, %d, %v, not %v, %d, %v", s, l, n, e, want, size, wrong)
		}
		at = min(max(at, 0), len(s))
		for _, pieces := range [][]string{{s[:at], s[at:]}, bytewise(s)} {
			if l, e := fed(t, pieces...); !sameReqs(l, want) || e != wrong {
				t.Errorf("pieces of %q: %v, %v, not %v, %v", s, l, e, want, wrong)
			}
		}
		for _, q := range l {
			text, e := http.Write(q)
			if e != api.OK {
				continue // read from more lines, or longer ones, than are written
			}
			if again, n, e := http.All(text); !sameReqs(again, []api.Req{q}) || n != len(text) || e != api.OK {
				t.Errorf("All of Write(%v): %v, %d, %v", q, again, n, e)
			}
		}
	})
}
