package route_test

import (
	"slices"
	"strings"
	"testing"

	"stowage/api"
	"stowage/percent"
	"stowage/route"
)

// Promise 20.3: each error's status, and those of numbers that are no error.
func TestStatus(t *testing.T) {
	want := map[api.Errno]int{
		api.OK: 200, api.ErrNone: 404, api.ErrKey: 404, api.ErrMark: 404, api.ErrVersion: 404, api.ErrUpload: 404, api.ErrWay: 405, api.ErrThere: 409, api.ErrFilled: 409, api.ErrClash: 409,
		api.ErrLong: 413, api.ErrBody: 413, api.ErrHead: 431, api.ErrMethod: 501, api.ErrMany: 507, api.ErrFull: 507, api.ErrLeader: 307, api.ErrBusy: 503, api.ErrDown: 503,
		api.ErrArg: 400, api.ErrForm: 400, api.ErrEnd: 400, api.ErrSum: 400, api.ErrName: 400, api.ErrGap: 400, api.ErrCorrupt: 400, api.ErrConf: 400, api.ErrPart: 400, api.ErrSmall: 400, api.ErrBad: 400, api.ErrShut: 400,
	}
	for e := api.Errno(-300); e < 1500; e++ {
		code, is := want[e]
		if !is {
			code = 400
		}
		if got := route.Status(e); got != code {
			t.Errorf("Status(%d): %d, not %d", int(e), got, code)
		}
	}
	for _, e := range []api.Errno{-1 << 63, 1<<63 - 1, 1 << 32} {
		if got := route.Status(e); got != 400 {
			t.Errorf("Status(%d): %d", int(e), got)
		}
	}
}

// Promise 20.3: listings.
func TestItems(t *testing.T) {
	for _, c := range []struct {
		l    []api.Item
		more bool
		want string
	}{
		{nil, false, ""}, {[]api.Item{}, false, ""}, {nil, true, "more\n"}, {[]api.Item{{Name: "a"}}, false, "k a\n"}, {[]api.Item{{Name: "a/", Folder: true}}, false, "f a%2F\n"},
		{[]api.Item{{Name: "a b"}, {Name: "c/", Folder: true}}, true, "k a%20b\nf c%2F\nmore\n"}, {[]api.Item{{}, {Folder: true}}, false, "k \nf \n"}, {[]api.Item{{Name: "more"}}, true, "k more\nmore\n"},
		{[]api.Item{{Name: "b"}, {Name: "a"}, {Name: "b"}}, false, "k b\nk a\nk b\n"}, {[]api.Item{{Name: "\n\x00\xff%"}}, false, "k %0A%00%FF%25\n"},
	} {
		if s := route.Items(c.l, c.more); s != c.want {
			t.Errorf("Items(%v, %v): %q, not %q", c.l, c.more, s, c.want)
		}
	}
	for c := range 256 {
		if s := route.Items([]api.Item{{Name: one(c)}}, false); s != "k "+percent.Name(one(c))+"\n" {
			t.Errorf("Items of %q: %q", one(c), s)
		}
	}
}

// Promise 20.3: texts as lines, and back again.
func TestLines(t *testing.T) {
	for _, c := range []struct {
		l    []string
		want string
	}{{nil, ""}, {[]string{}, ""}, {[]string{""}, "\n"}, {[]string{"", ""}, "\n\n"}, {[]string{"one"}, "one\n"}, {[]string{"b", "a", "b"}, "b\na\nb\n"}, {[]string{"a b", "c/d", "\n", "%41"}, "a%20b\nc%2Fd\n%0A\n%2541\n"}, {[]string{"\x00\xff"}, "%00%FF\n"}} {
		if s := route.Lines(c.l); s != c.want {
			t.Errorf("Lines(%q): %q, not %q", c.l, s, c.want)
		}
		if l, e := route.Unlines(c.want); !slices.Equal(l, c.l) || e != api.OK {
			t.Errorf("Unlines(%q): %q, %v", c.want, l, e)
		}
	}
	var all []string
	for c := range 256 {
		all = append(all, one(c), "a"+one(c)+"b")
	}
	s := route.Lines(all)
	if l, e := route.Unlines(s); !slices.Equal(l, all) || e != api.OK || strings.Count(s, "\n") != 512 {
		t.Errorf("Unlines of all bytes: %q, %v", l, e)
	}
}

// Promise 20.3: texts that Lines does not answer.
func TestUnlines(t *testing.T) {
	for _, s := range []string{"a", "a\nb", "\na", "a b\n", " \n", "a/b\n", "/\n", "%41\n", "%2f\n", "%2F%2f\n", "%\n", "%4\n", "%4g\n", "%0", "a\r\n", "\r", "a+b\n", "a=b\n", "a&b\n", "?\n", "#\n", "\x00\n", "\xff\n", "ä\n", "%7E\n", "%2E\n", "%5F\n", "%2D\n", "a\n%61\n", "a%0A", "\"\n", "a\n b\n"} {
		if l, e := route.Unlines(s); len(l) != 0 || e != api.ErrForm {
			t.Errorf("Unlines(%q): %q, %v", s, l, e)
		}
		if l, e := route.Unlines("fine\n" + s); len(l) != 0 || e != api.ErrForm {
			t.Errorf("Unlines behind a line of %q: %q, %v", s, l, e)
		}
	}
	for c := range 256 {
		isLines(t, one(c)+"\n")
		isLines(t, "a"+one(c)+"b\n")
		isLines(t, one(c))
		for d := range 256 {
			isLines(t, "%"+one(c)+one(d)+"\n")
		}
	}
}

// isLines asks that a text is read just if Lines answers it of what is read.
func isLines(t *testing.T, s string) {
	t.Helper()
	l, e := route.Unlines(s)
	if e == api.OK && route.Lines(l) != s {
		t.Errorf("Unlines(%q): %q, of which Lines is %q", s, l, route.Lines(l))
	}
	if e == api.OK {
		return
	}
	// Each text that Lines answers is of texts that a path says, line by line.
	all := strings.Split(s, "\n")
	var told []string
	for _, name := range all[:len(all)-1] {
		text, _ := percent.Unpath(name)
		told = append(told, text)
	}
	if e != api.ErrForm || len(l) != 0 || route.Lines(told) == s {
		t.Errorf("Unlines(%q): %q, %v, but Lines(%q) is it", s, l, e, told)
	}
}
