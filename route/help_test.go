package route_test

import (
	"fmt"
	"math/rand"
	"reflect"
	"regexp"
	"slices"
	"strconv"
	"strings"
	"testing"
	"unsafe"

	"stowage/api"
	"stowage/names"
	"stowage/percent"
	"stowage/route"
)

// rep is one text n times.
func rep(s string, n int) string { return strings.Repeat(s, n) }

// short is a value as a text, or its beginning.
func short(v any) string {
	s := fmt.Sprintf("%+v", v)
	return s[:min(len(s), 400)]
}

// one is a text of one byte.
func one(c int) string { return string([]byte{byte(c)}) }

// sum is a digest of one digit.
func sum(digit string) string { return rep(digit, 64) }

// req is a request of a method, a target, and a body.
func req(method, target string, body ...string) api.Req {
	path, query, _ := strings.Cut(target, "?")
	return api.Req{Method: method, Path: path, Query: query, Body: strings.Join(body, "")}
}

// withToken is a request with tokens.
func withToken(r api.Req, tokens ...string) api.Req {
	for _, token := range tokens {
		r.Heads = append(r.Heads, api.Pair{Name: "x-token", Value: token})
	}
	return r
}

// cmd is that a command is wanted.
func cmd(c api.Cmd) api.Want { return api.Want{Kind: api.WantCmd, Cmd: c} }

// put is that a command with a body is wanted.
func put(c api.Cmd, body string) api.Want { return api.Want{Kind: api.WantCmd, Cmd: c, Body: body} }

// sample is a request and what it wants.
type sample struct {
	r api.Req
	w api.Want
}

// samples are requests of each row, as Write has them.
func samples() []sample {
	return []sample{
		{req("GET", "/"), api.Want{Kind: api.WantBuckets}},
		{req("PUT", "/_nodes/0"), api.Want{Kind: api.WantNode, Add: true}},
		{req("PUT", "/_nodes/6"), api.Want{Kind: api.WantNode, Node: 6, Add: true}},
		{req("DELETE", "/_nodes/3"), api.Want{Kind: api.WantNode, Node: 3}},
		{req("POST", "/_expire?upto=0"), cmd(api.Cmd{Kind: api.CmdExpire})},
		{req("POST", "/_expire?upto=77"), cmd(api.Cmd{Kind: api.CmdExpire, ID: 77})},
		{req("PUT", "/one"), cmd(api.Cmd{Kind: api.CmdMake, Bucket: "one"})},
		{req("DELETE", "/one"), cmd(api.Cmd{Kind: api.CmdDrop, Bucket: "one"})},
		{req("GET", "/one?uploads"), api.Want{Kind: api.WantUploads, Bucket: "one"}},
		{req("GET", "/one"), api.Want{Kind: api.WantKeys, Bucket: "one", Most: 100}},
		{req("GET", "/one?prefix=a%2F&delimiter=%2F&after=a%2Fb&most=2"), api.Want{Kind: api.WantKeys, Bucket: "one", Prefix: "a/", Delimiter: "/", After: "a/b", Most: 2}},
		{req("GET", "/one?after=%00%FF"), api.Want{Kind: api.WantKeys, Bucket: "one", After: "\x00\xff", Most: 100}},
		{req("PUT", "/one/k?upload=7&part=1", "hi"), put(api.Cmd{Kind: api.CmdPart, Bucket: "one", Key: "k", ID: 7, N: 1}, "hi")},
		{req("PUT", "/one/k?upload=1099511627776&part=100"), cmd(api.Cmd{Kind: api.CmdPart, Bucket: "one", Key: "k", ID: 1 << 40, N: 100})},
		{req("PUT", "/one/k", "ho"), put(api.Cmd{Kind: api.CmdPut, Bucket: "one", Key: "k"}, "ho")},
		{req("PUT", "/one/a/b%20c"), cmd(api.Cmd{Kind: api.CmdPut, Bucket: "one", Key: "a/b c"})},
		{req("GET", "/one/k?upload=7"), api.Want{Kind: api.WantParts, Bucket: "one", Key: "k", ID: 7}},
		{req("GET", "/one/k"), api.Want{Kind: api.WantRead, Bucket: "one", Key: "k"}},
		{req("GET", "/one/k?version=9"), api.Want{Kind: api.WantRead, Bucket: "one", Key: "k", ID: 9}},
		{req("HEAD", "/one/k"), api.Want{Kind: api.WantRead, Bucket: "one", Key: "k", Head: true}},
		{req("HEAD", "/one/k?version=9"), api.Want{Kind: api.WantRead, Bucket: "one", Key: "k", ID: 9, Head: true}},
		{req("DELETE", "/one/k?version=9"), cmd(api.Cmd{Kind: api.CmdErase, Bucket: "one", Key: "k", ID: 9})},
		{req("DELETE", "/one/k?upload=7"), cmd(api.Cmd{Kind: api.CmdStop, Bucket: "one", Key: "k", ID: 7})},
		{req("DELETE", "/one/k"), cmd(api.Cmd{Kind: api.CmdMark, Bucket: "one", Key: "k"})},
		{req("POST", "/one/k?uploads"), cmd(api.Cmd{Kind: api.CmdBegin, Bucket: "one", Key: "k"})},
		{req("POST", "/one/k?upload=7"), cmd(api.Cmd{Kind: api.CmdJoin, Bucket: "one", Key: "k", ID: 7})},
		{req("POST", "/one/k?upload=7", "1 "+sum("a")+"\n3 "+sum("0")+"\n"), cmd(api.Cmd{Kind: api.CmdJoin, Bucket: "one", Key: "k", ID: 7, Picks: []api.Pick{{N: 1, Sum: sum("a")}, {N: 3, Sum: sum("0")}}})},
	}
}

// same tells whether two wants are the same; no list and an empty one are.
func same(a, b api.Want) bool {
	for _, c := range []*api.Cmd{&a.Cmd, &b.Cmd} {
		if len(c.Pieces) == 0 {
			c.Pieces = nil
		}
		if len(c.Picks) == 0 {
			c.Picks = nil
		}
	}
	return reflect.DeepEqual(a, b)
}

// sameReq tells whether two requests are the same; no list and an empty one are.
func sameReq(a, b api.Req) bool {
	if len(a.Heads) == 0 && len(b.Heads) == 0 {
		a.Heads, b.Heads = nil, nil
	}
	return reflect.DeepEqual(a, b)
}

// routes asks that a request wants something.
func routes(t *testing.T, r api.Req, want api.Want) {
	t.Helper()
	if w, e := route.Route(r); !same(w, want) || e != api.OK {
		t.Errorf("Route(%s): %s, %v, not %s", short(r), short(w), e, short(want))
	}
	asPlain(t, r)
}

// refuses asks that a request is refused.
func refuses(t *testing.T, r api.Req, want api.Errno) {
	t.Helper()
	if w, e := route.Route(r); !same(w, api.Want{}) || e != want {
		t.Errorf("Route(%s): %s, %v, not %v", short(r), short(w), e, want)
	}
	asPlain(t, r)
}

// asPlain asks that a request is read as the plain reading does; and that what it wants is written and read again.
func asPlain(t *testing.T, r api.Req) {
	t.Helper()
	want, wrong := plainRoute(r)
	w, e := route.Route(r)
	if !same(w, want) || e != wrong {
		t.Errorf("Route(%s): %s, %v, not %s, %v", short(r), short(w), e, short(want), wrong)
	}
	if e != api.OK {
		return
	}
	q, e := route.Write(w)
	again, wrong := route.Route(q)
	if e != api.OK || wrong != api.OK || !same(again, w) {
		t.Errorf("Route of Write(%s) = %s, %v: %s, %v", short(w), short(q), e, short(again), wrong)
	}
}

// A number, a line of picks: as the chapter says.
var (
	numberForm = regexp.MustCompile(`\A(0|[1-9][0-9]{0,12})\z`)
	pickForm   = regexp.MustCompile(`\A([0-9]+) ([0-9a-f]{64})\z`)
)

// within is the number that a text says, if it is one between bounds.
func within(s string, least, most int) (int, bool) {
	if !numberForm.MatchString(s) {
		return 0, false
	}
	n, _ := strconv.Atoi(s)
	return n, n >= least && n <= most && n <= 1<<40
}

// plainRoute is what Route is to answer, told by the set of a query's words.
func plainRoute(r api.Req) (api.Want, api.Errno) {
	said, e := percent.Unpath(r.Path)
	if e != api.OK || !strings.HasPrefix(said, "/") {
		return api.Want{}, api.ErrForm
	}
	parts := append(strings.SplitN(said[1:], "/", 2), "")
	bucket, key := parts[0], parts[1]
	special := bucket == "_nodes" || bucket == "_expire"
	if bucket+key != "" && !special && !names.Bucket(bucket) || key != "" && !names.Key(key) {
		return api.Want{}, api.ErrForm
	}
	form, methods := "/B", "GET PUT DELETE"
	switch {
	case bucket == "_nodes" && key != "":
		form, methods = "/_nodes/N", "PUT DELETE"
	case bucket == "_expire" && key == "":
		form, methods = "/_expire", "POST"
	case special:
		return api.Want{}, api.ErrNone
	case bucket == "":
		form, methods = "/", "GET"
	case key != "":
		form, methods = "/B/K", "GET HEAD PUT DELETE POST"
	}
	if !slices.Contains(strings.Fields(methods), r.Method) {
		return api.Want{}, api.ErrWay
	}
	query, e := percent.Unquery(r.Query)
	if e != api.OK {
		return api.Want{}, e
	}
	w, fine := plainWant(r, form, bucket, key, query)
	for _, h := range r.Heads {
		if h.Name == "x-token" {
			fine = fine && names.Token(h.Value)
			if w.Kind == api.WantCmd && w.Cmd.Kind != api.CmdExpire {
				w.Cmd.Token = h.Value
			}
			break
		}
	}
	if !fine {
		return api.Want{}, api.ErrForm
	}
	return w, api.OK
}

// plainWant is what a request of a form wants, but for its token.
func plainWant(r api.Req, form, bucket, key string, query []api.Pair) (api.Want, bool) {
	value := map[string]string{}
	var words []string
	for _, p := range query {
		value[p.Name] = p.Value
		words = append(words, p.Name)
	}
	slices.Sort(words)
	if len(value) != len(query) || value["uploads"] != "" {
		return api.Want{}, false
	}
	id := 0
	for _, name := range []string{"version", "upload"} {
		if s, is := value[name]; is {
			var fine bool
			if id, fine = within(s, 1, 1<<40); !fine {
				return api.Want{}, false
			}
		}
	}
	c := api.Cmd{Bucket: bucket, Key: key, ID: id}
	w := api.Want{Bucket: bucket, Key: key, ID: id}
	none := r.Body == ""
	command := func(kind int) api.Want { c.Kind = kind; return cmd(c) }
	read := func(kind int) api.Want { w.Kind = kind; return w }
	all := strings.Join(words, " ")
	switch r.Method + " " + form + " " + all {
	case "GET / ":
		return read(api.WantBuckets), none
	case "PUT /_nodes/N ", "DELETE /_nodes/N ":
		n, fine := within(key, 0, 6)
		return api.Want{Kind: api.WantNode, Node: n, Add: r.Method == "PUT"}, fine && none
	case "POST /_expire upto":
		n, fine := within(value["upto"], 0, 1<<40)
		return cmd(api.Cmd{Kind: api.CmdExpire, ID: n}), fine && none
	case "PUT /B ":
		return command(api.CmdMake), none
	case "DELETE /B ":
		return command(api.CmdDrop), none
	case "GET /B uploads":
		return read(api.WantUploads), none
	case "PUT /B/K part upload":
		var fine bool
		c.N, fine = within(value["part"], 1, 100)
		w := command(api.CmdPart)
		w.Body = r.Body
		return w, fine
	case "PUT /B/K ":
		w := command(api.CmdPut)
		w.Body = r.Body
		return w, true
	case "GET /B/K upload":
		return read(api.WantParts), none
	case "GET /B/K ", "GET /B/K version", "HEAD /B/K ", "HEAD /B/K version":
		w.Head = r.Method == "HEAD"
		return read(api.WantRead), none
	case "DELETE /B/K version":
		return command(api.CmdErase), none
	case "DELETE /B/K upload":
		return command(api.CmdStop), none
	case "DELETE /B/K ":
		return command(api.CmdMark), none
	case "POST /B/K uploads":
		return command(api.CmdBegin), none
	case "POST /B/K upload":
		var fine bool
		c.Picks, fine = plainPicks(r.Body)
		return command(api.CmdJoin), fine
	}
	if r.Method != "GET" || form != "/B" || slices.ContainsFunc(words, func(s string) bool { return !slices.Contains([]string{"prefix", "delimiter", "after", "most"}, s) }) {
		return api.Want{}, false
	}
	w.Prefix, w.Delimiter, w.After, w.Most = value["prefix"], value["delimiter"], value["after"], 100
	fine := true
	if s, is := value["most"]; is {
		w.Most, fine = within(s, 1, 1000)
	}
	return read(api.WantKeys), fine && none
}

// plainPicks are the picks that a body says.
func plainPicks(body string) ([]api.Pick, bool) {
	all := strings.Split(body, "\n")
	if last := all[len(all)-1]; last != "" || len(all) > 101 {
		return nil, false
	}
	var l []api.Pick
	for _, s := range all[:len(all)-1] {
		m := pickForm.FindStringSubmatch(s)
		if m == nil {
			return nil, false
		}
		n, fine := within(m[1], 0, 100)
		if !fine {
			return nil, false
		}
		l = append(l, api.Pick{N: n, Sum: m[2]})
	}
	return l, true
}

// drawn is a text of some pieces of a list.
func drawn(r *rand.Rand, most int, from ...string) string {
	s := ""
	for range r.Intn(most + 1) {
		s += from[r.Intn(len(from))]
	}
	return s
}

// span is a stretch of memory.
type span struct{ from, to uintptr }

// spans are where the texts and lists of a value stand.
func spans(v reflect.Value) []span {
	switch v.Kind() {
	case reflect.String:
		from := uintptr(unsafe.Pointer(unsafe.StringData(v.String())))
		return []span{{from, from + uintptr(v.Len())}}
	case reflect.Slice:
		l := []span{{v.Pointer(), v.Pointer() + uintptr(v.Cap())*v.Type().Elem().Size()}}
		for i := range v.Len() {
			l = append(l, spans(v.Index(i))...)
		}
		return l
	case reflect.Struct:
		var l []span
		for i := range v.NumField() {
			l = append(l, spans(v.Field(i))...)
		}
		return l
	}
	return nil
}

// apart asks that no two values have memory in common.
func apart(t *testing.T, values ...any) {
	t.Helper()
	for i, a := range values {
		for j, b := range values[:i] {
			for _, x := range spans(reflect.ValueOf(a)) {
				for _, y := range spans(reflect.ValueOf(b)) {
					if x.from < y.to && y.from < x.to {
						t.Errorf("%d and %d have one memory: %s, %s", i, j, short(a), short(b))
						return
					}
				}
			}
		}
	}
}
