package route_test

import (
	"reflect"
	"slices"
	"strings"
	"testing"

	"stowage/api"
	"stowage/http"
	"stowage/names"
	"stowage/route"
)

// wanted tells whether some request wants just that: which fields a want has, and what may be in them.
func wanted(w api.Want) bool {
	id := func(n int) bool { return n >= 1 && n <= 1<<40 }
	c := w.Cmd
	var left api.Want // w, as far as it may be; all else is to be nothing
	fine := true
	switch w.Kind {
	case api.WantBuckets:
		left = api.Want{Kind: w.Kind}
	case api.WantNode:
		left = api.Want{Kind: w.Kind, Node: w.Node, Add: w.Add}
		fine = w.Node >= 0 && w.Node <= 6
	case api.WantUploads:
		left = api.Want{Kind: w.Kind, Bucket: w.Bucket}
		fine = names.Bucket(w.Bucket)
	case api.WantKeys:
		left = api.Want{Kind: w.Kind, Bucket: w.Bucket, Prefix: w.Prefix, Delimiter: w.Delimiter, After: w.After, Most: w.Most}
		fine = names.Bucket(w.Bucket) && w.Most >= 1 && w.Most <= 1000
	case api.WantParts:
		left = api.Want{Kind: w.Kind, Bucket: w.Bucket, Key: w.Key, ID: w.ID}
		fine = names.Bucket(w.Bucket) && names.Key(w.Key) && id(w.ID)
	case api.WantRead:
		left = api.Want{Kind: w.Kind, Bucket: w.Bucket, Key: w.Key, ID: w.ID, Head: w.Head}
		fine = names.Bucket(w.Bucket) && names.Key(w.Key) && (w.ID == 0 || id(w.ID))
	case api.WantCmd:
		left = api.Want{Kind: w.Kind, Cmd: api.Cmd{Kind: c.Kind, Token: c.Token, Bucket: c.Bucket, Key: c.Key}}
		fine = names.Bucket(c.Bucket) && names.Key(c.Key) && (c.Token == "" || names.Token(c.Token))
		switch c.Kind {
		case api.CmdMake, api.CmdDrop:
			left.Cmd.Key = ""
			fine = names.Bucket(c.Bucket) && (c.Token == "" || names.Token(c.Token))
		case api.CmdPut:
			left.Body = w.Body
		case api.CmdPart:
			left.Body, left.Cmd.ID, left.Cmd.N = w.Body, c.ID, c.N
			fine = fine && id(c.ID) && c.N >= 1 && c.N <= 100
		case api.CmdErase, api.CmdStop:
			left.Cmd.ID = c.ID
			fine = fine && id(c.ID)
		case api.CmdJoin:
			left.Cmd.ID, left.Cmd.Picks = c.ID, c.Picks
			_, lines := plainPicks(rep("0 "+sum("0")+"\n", len(c.Picks)))
			fine = fine && id(c.ID) && lines && !slices.ContainsFunc(c.Picks, func(p api.Pick) bool {
				return p.N < 0 || p.N > 100 || len(p.Sum) != 64 || strings.Trim(p.Sum, "0123456789abcdef") != ""
			})
		case api.CmdExpire:
			left.Cmd = api.Cmd{Kind: c.Kind, ID: c.ID}
			fine = c.ID >= 0 && c.ID <= 1<<40
		case api.CmdMark, api.CmdBegin:
		default:
			fine = false
		}
	default:
		fine = false
	}
	return fine && same(left, w)
}

// writes asks that a want is written just if some request wants it, as one that does.
func writes(t *testing.T, w api.Want) {
	t.Helper()
	r, e := route.Write(w)
	if !wanted(w) {
		if !sameReq(r, api.Req{}) || e != api.ErrForm {
			t.Errorf("Write(%s): %s, %v", short(w), short(r), e)
		}
		return
	}
	got, wrong := route.Route(r)
	if e != api.OK || wrong != api.OK || !same(got, w) {
		t.Errorf("Write(%s): %s, %v; that wants %s, %v", short(w), short(r), e, short(got), wrong)
	}
}

// Promise 20.2: each kind of want, as the one request that says it in the order of its row.
func TestWrite(t *testing.T) {
	for _, s := range samples() {
		if r, e := route.Write(s.w); !sameReq(r, s.r) || e != api.OK {
			t.Errorf("Write(%v): %v, %v, not %v", s.w, r, e, s.r)
		}
		writes(t, s.w)
		if s.w.Kind != api.WantCmd || s.w.Cmd.Kind == api.CmdExpire {
			continue
		}
		w := s.w
		w.Cmd.Token = "tok"
		if r, e := route.Write(w); !sameReq(r, withToken(s.r, "tok")) || e != api.OK {
			t.Errorf("Write(%v): %v, %v", w, r, e)
		}
	}
	for _, s := range []sample{
		{req("PUT", "/one/a%20%00b"), cmd(api.Cmd{Kind: api.CmdPut, Bucket: "one", Key: "a \x00b"})},
		{req("PUT", "/_nodes"), cmd(api.Cmd{Kind: api.CmdMake, Bucket: "_nodes"})},
		{req("PUT", "/one/k"), cmd(api.Cmd{Kind: api.CmdMake, Bucket: "one/k"})},
		{req("PUT", "/_nodes/1"), cmd(api.Cmd{Kind: api.CmdPut, Bucket: "_nodes", Key: "1"})},
		{req("GET", "/"), api.Want{Kind: api.WantKeys, Most: 100}},
	} {
		if r, e := route.Write(s.w); !sameReq(r, api.Req{}) || e != api.ErrForm {
			t.Errorf("Write(%v): %v, %v", s.w, r, e)
		}
	}
	if r, e := route.Write(api.Want{Kind: api.WantRead, Bucket: "one", Key: "/ä?&=+%#"}); !sameReq(r, req("GET", "/one//%C3%A4%3F%26%3D%2B%25%23")) || e != api.OK {
		t.Errorf("Write of a key: %v, %v", r, e)
	}
	if r, e := route.Write(api.Want{Kind: api.WantKeys, Bucket: "one", Prefix: "&", Delimiter: "=", After: "a b", Most: 100}); !sameReq(r, req("GET", "/one?prefix=%26&delimiter=%3D&after=a%20b")) || e != api.OK {
		t.Errorf("Write of a listing: %v, %v", r, e)
	}
}

// values are other values for a field.
func values(v reflect.Value) []any {
	switch v.Interface().(type) {
	case int:
		var l []any
		for _, n := range []int{-1 << 63, -1, 0, 1, 2, 3, 4, 5, 6, 7, 8, 9, 10, 11, 99, 100, 101, 1000, 1001, 1 << 40, 1<<40 + 1, 1<<63 - 1} {
			l = append(l, n)
		}
		return l
	case string:
		return []any{"", "x", "one", "two", "k", "a/b", "/", "a b", "\x00", "\xff", "_nodes", "_expire", rep("t", 64), rep("t", 65), rep("k", 1024), rep("k", 1025), sum("a"), "1 " + sum("a") + "\n", "..", "?", "100"}
	case bool:
		return []any{false, true}
	case []api.Piece:
		return []any{[]api.Piece(nil), []api.Piece{}, []api.Piece{{ID: sum("a"), Size: 1}}, []api.Piece{{}}}
	case []api.Pick:
		a := api.Pick{N: 1, Sum: sum("a")}
		return []any{[]api.Pick(nil), []api.Pick{}, []api.Pick{a}, []api.Pick{a, a}, []api.Pick{{}}, []api.Pick{{N: 1}}, []api.Pick{{Sum: sum("a")}}, []api.Pick{{N: -1, Sum: sum("a")}}, []api.Pick{{N: 100, Sum: sum("a")}}, []api.Pick{{N: 101, Sum: sum("a")}}, []api.Pick{{N: 1, Sum: sum("A")}}, []api.Pick{{N: 1, Sum: sum("a") + "\n2 " + sum("a")}}, slices.Repeat([]api.Pick{a}, 100), slices.Repeat([]api.Pick{a}, 101)}
	}
	return nil
}

// fields are the fields of a want, those of its command among them.
func fields(w *api.Want) []reflect.Value {
	var l []reflect.Value
	v := reflect.ValueOf(w).Elem()
	for i := range v.NumField() {
		if v.Field(i).Kind() != reflect.Struct {
			l = append(l, v.Field(i))
		}
	}
	c := v.FieldByName("Cmd")
	for i := range c.NumField() {
		l = append(l, c.Field(i))
	}
	return l
}

// Promise 20.2: wants of each kind with each field changed: just those are written that some request wants.
func TestWriteChanged(t *testing.T) {
	fine, wrong := 0, 0
	for _, s := range append(samples(), sample{}) {
		for i := range fields(&s.w) {
			for _, x := range values(fields(&s.w)[i]) {
				w := s.w
				fields(&w)[i].Set(reflect.ValueOf(x))
				writes(t, w)
				if wanted(w) {
					fine++
				} else {
					wrong++
				}
			}
		}
	}
	if fine < 1000 || wrong < 1000 {
		t.Errorf("%d fine, %d wrong", fine, wrong)
	}
	for kind := -2; kind < 20; kind++ {
		writes(t, api.Want{Kind: kind})
		writes(t, api.Want{Kind: kind, Bucket: "one", Key: "k", ID: 1, Most: 100})
		writes(t, cmd(api.Cmd{Kind: kind}))
		writes(t, cmd(api.Cmd{Kind: kind, Bucket: "one", Key: "k", ID: 1}))
		writes(t, cmd(api.Cmd{Kind: kind, Bucket: "one", Key: "k"}))
		writes(t, cmd(api.Cmd{Kind: kind, Bucket: "one"}))
	}
}

// Promise 20.2: bodies of any length, and names at their bounds.
func TestWriteLong(t *testing.T) {
	for _, body := range []string{"", "x", rep("x", 1<<17), rep("x", 1<<17+1), rep("x", 1<<20)} {
		writes(t, put(api.Cmd{Kind: api.CmdPut, Bucket: "one", Key: "k"}, body))
		writes(t, put(api.Cmd{Kind: api.CmdPart, Bucket: "one", Key: "k", ID: 1, N: 1}, body))
		writes(t, put(api.Cmd{Kind: api.CmdMark, Bucket: "one", Key: "k"}, body))
		writes(t, put(api.Cmd{Kind: api.CmdJoin, Bucket: "one", Key: "k", ID: 1}, body))
	}
	for _, n := range []int{2, 3, 63, 64} {
		writes(t, api.Want{Kind: api.WantUploads, Bucket: rep("b", n)})
	}
	for _, n := range []int{1, 1024, 1025} {
		for _, c := range []string{"k", " ", "\xff", "/"} {
			writes(t, api.Want{Kind: api.WantRead, Bucket: "one", Key: rep(c, n)})
		}
	}
}

// Promise 20.4: what is written goes over http, and wants the same there.
func TestOverHTTP(t *testing.T) {
	all := ""
	var want []api.Want
	for _, s := range samples() {
		for _, token := range []string{"", "t"} {
			w := s.w
			w.Cmd.Token = token
			r, e := route.Write(w)
			if e != api.OK {
				continue // one that has no token
			}
			b, e := http.Write(r)
			if e != api.OK {
				t.Errorf("http.Write(%v): %v", r, e)
			}
			all += b
			want = append(want, w)
		}
	}
	l, n, e := http.All(all)
	if len(l) != len(want) || n != len(all) || e != api.OK {
		t.Fatalf("http.All: %d of %d, %v", len(l), len(want), e)
	}
	for i, r := range l {
		routes(t, r, want[i])
	}
}
