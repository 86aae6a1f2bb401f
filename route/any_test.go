package route_test

import (
	"math/rand"
	"reflect"
	"runtime"
	"slices"
	"strings"
	"testing"

	"stowage/api"
	commands "stowage/cmd"
	"stowage/digest"
	"stowage/extent"
	"stowage/route"
)

// whole asks that what a request wants of a command may be, as soon as the pieces of the body are put in.
func whole(t *testing.T, r api.Req) {
	t.Helper()
	w, e := route.Route(r)
	if e != api.OK || w.Kind != api.WantCmd {
		return
	}
	c := w.Cmd
	if c.Kind == api.CmdPut || c.Kind == api.CmdPart {
		c.Sum = digest.Hex(digest.Sum(w.Body))
		for _, s := range extent.Cut(w.Body) {
			c.Pieces = append(c.Pieces, api.Piece{ID: digest.Hex(digest.Sum(s)), Size: len(s)})
		}
	}
	if commands.Check(c) != api.OK {
		t.Errorf("%s wants a command that may not be: %s", short(r), short(c))
	}
}

// Promise 20.4: the commands of each row may be.
func TestCommandsMayBe(t *testing.T) {
	for _, s := range samples() {
		whole(t, s.r)
		whole(t, withToken(s.r, "t"))
	}
	whole(t, req("PUT", "/one/k", rep("x", 1<<17)))
	whole(t, req("POST", "/one/k?upload=1", rep("100 "+sum("0")+"\n", 100)))
}

// drawnRequest is a request of drawn pieces, most of which belong to some row.
func drawnRequest(r *rand.Rand) api.Req {
	if r.Intn(3) == 0 {
		all := samples()
		q := all[r.Intn(len(all))].r
		q.Query += drawn(r, 1, "&x", "&upload=1", "&version=2", "&most=0", "&uploads", "&", "1", "0")
		q.Path += drawn(r, 1, "/", "k", "/k", "1")
		return withToken(q, strings.Split(drawn(r, 1, "t", "", "a b", "t|u"), "|")...)
	}
	q := api.Req{Method: []string{"GET", "HEAD", "PUT", "POST", "DELETE", "BREW"}[r.Intn(6)]}
	q.Path = "/" + drawn(r, 3, "one", "two", "k", "/", "_nodes/", "_expire", "3", "%2F", "%00", "_", "%41")
	var words []string
	for range r.Intn(4) {
		words = append(words, drawn(r, 1, "uploads", "upload=", "part=", "version=", "upto=", "most=", "prefix=", "after=", "delimiter=", "x=")+drawn(r, 2, "1", "0", "7", "a", "%31", "+", "1000"))
	}
	q.Query = strings.Join(words, "&")
	q.Body = drawn(r, 3, "1 "+sum("a")+"\n", "x", "7 "+sum("0")+"\n", "\n")
	for range r.Intn(3) {
		q.Heads = append(q.Heads, api.Pair{Name: drawn(r, 1, "x-token", "host"), Value: drawn(r, 2, "t", "u", " ")})
	}
	return q
}

// Promises 20.1, 20.2 and 20.4: drawn requests want what the plain reading says, and that is written and read again.
func TestAny(t *testing.T) {
	r := rand.New(rand.NewSource(1))
	met := map[api.Errno]int{}
	kinds := map[[2]int]int{}
	for range 100000 {
		q := drawnRequest(r)
		asPlain(t, q)
		whole(t, q)
		w, e := route.Route(q)
		met[e]++
		kinds[[2]int{w.Kind, w.Cmd.Kind}]++
		if e == api.OK {
			l := fields(&w)
			f := l[r.Intn(len(l))]
			other := values(f)
			f.Set(reflect.ValueOf(other[r.Intn(len(other))]))
			writes(t, w)
		}
		if t.Failed() {
			t.Fatalf("%v", q)
		}
	}
	for _, e := range []api.Errno{api.OK, api.ErrForm, api.ErrNone, api.ErrWay} {
		if met[e] < 300 {
			t.Errorf("%v was met %d times", e, met[e])
		}
	}
	if len(kinds) != 17 { // six that read or change members, ten commands, none
		t.Errorf("the kinds that were met are %v", kinds)
	}
}

// Rule R3: what is handed in is not changed, and what is answered is of its own memory.
func TestSharesNothing(t *testing.T) {
	var kept []any // so that no memory is another one's later on
	keep := func(v any) { kept = append(kept, v) }
	own := strings.Clone
	body := own("10 " + sum("a") + "\n20 " + sum("b") + "\n")
	heads := []api.Pair{{Name: own("x-token"), Value: own("token")}, {Name: own("x-token"), Value: own("other")}, {Name: own("behind"), Value: own("it")}}
	requests := []api.Req{
		{Method: own("GET"), Path: own("/bucket"), Query: own("prefix=prefix&delimiter=delimiter&after=after"), Heads: heads[:2]},
		{Method: own("GET"), Path: own("/bucket/key"), Heads: heads[:2]},
		{Method: own("PUT"), Path: own("/bucket/key"), Heads: heads[:2], Body: own("body")},
		{Method: own("PUT"), Path: own("/bucket/key"), Query: own("upload=10&part=20"), Heads: heads[:2], Body: own("body")},
		{Method: own("POST"), Path: own("/bucket/key"), Query: own("upload=10"), Heads: heads[:2], Body: body},
	}
	was := slices.Clone(requests)
	headsWere := slices.Clone(heads)
	for _, r := range requests {
		r.Heads = nil // they are one list
		keep(r)
	}
	keep(heads)
	var wants []api.Want
	for range 2 {
		for _, r := range requests {
			w, e := route.Route(r)
			if e != api.OK {
				t.Fatalf("Route(%v): %v", r, e)
			}
			keep(w)
			wants = append(wants, w)
		}
	}
	for _, w := range wants {
		r, e := route.Write(w)
		if e != api.OK {
			t.Fatalf("Write(%v): %v", w, e)
		}
		r.Method = "" // one of five constants
		for i := range r.Heads {
			r.Heads[i].Name = "" // likewise
		}
		keep(r)
	}
	items, texts := []api.Item{{Name: own("name")}, {Name: own("folder"), Folder: true}, {Name: own("behind")}}, []string{own("first"), own("second"), own("behind")}
	keep(items)
	keep(texts)
	for range 2 {
		keep(route.Items(items[:2], true))
		keep(route.Items(items[:1], false))
		s := route.Lines(texts[:2])
		keep(s)
		keep(route.Lines(texts[:1]))
		l, _ := route.Unlines(s)
		keep(l)
	}
	apart(t, kept...)
	if !slices.EqualFunc(requests, was, sameReq) || !slices.Equal(heads, headsWere) {
		t.Errorf("what was handed in is %v, and the list %v", requests, heads)
	}
	if items[2].Name != "behind" || texts[2] != "behind" || items[0].Name != "name" || texts[0] != "first" {
		t.Errorf("what was handed in is %v, %v", items, texts)
	}
	// A list that the caller changes is its own.
	w, _ := route.Route(requests[4])
	r, _ := route.Write(w)
	w.Cmd.Picks[0] = api.Pick{}
	again, _ := route.Route(requests[4])
	if again.Cmd.Picks[0] != (api.Pick{N: 10, Sum: sum("a")}) || r.Body != body || len(r.Heads) != 1 || r.Heads[0].Value != "token" {
		t.Errorf("a change of picks came to others: %v, %v", again, r)
	}
	runtime.KeepAlive(kept)
}

// Any requests want what the plain reading says.
func FuzzRoute(f *testing.F) {
	for _, s := range samples() {
		f.Add(s.r.Method, s.r.Path, s.r.Query, "x-token", "t", s.r.Body)
	}
	f.Fuzz(func(t *testing.T, method, path, query, name, value, body string) {
		q := api.Req{Method: method, Path: path, Query: query, Heads: []api.Pair{{Name: name, Value: value}}, Body: body}
		asPlain(t, q)
		if len(body) <= 1<<20 {
			whole(t, q)
		}
	})
}

// Any text is read just if Lines answers it.
func FuzzUnlines(f *testing.F) {
	for _, s := range []string{"", "\n", "a\nb\n", "a%20b\n", "%41\n", "a", "%2f\n", "/\n"} {
		f.Add(s)
	}
	f.Fuzz(func(t *testing.T, s string) {
		isLines(t, s)
		if l, e := route.Unlines(route.Lines([]string{s, s})); !slices.Equal(l, []string{s, s}) || e != api.OK {
			t.Errorf("Unlines of Lines of %q: %q, %v", s, l, e)
		}
	})
}
