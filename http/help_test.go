package http_test

import (
	"fmt"
	"math/rand"
	"reflect"
	"regexp"
	"slices"
	"strconv"
	"strings"
	"testing"
	"unsafe"

	"stowage/api"
	"stowage/http"
)

// rep is one text n times.
func rep(s string, n int) string { return strings.Repeat(s, n) }

// short is a value as a text, or its beginning.
func short(v any) string {
	s := fmt.Sprintf("%+v", v)
	return s[:min(len(s), 400)]
}

// one is a text of one byte.
func one(c int) string { return string([]byte{byte(c)}) }

// lines are lines, each with its end.
func lines(l ...string) string { return strings.Join(l, "\r\n") + "\r\n" }

// pairs are pairs of names and values, one behind the other.
func pairs(texts ...string) []api.Pair {
	var l []api.Pair
	for i := 0; i < len(texts); i += 2 {
		l = append(l, api.Pair{Name: texts[i], Value: texts[i+1]})
	}
	return l
}

// The forms of lines, as the chapter says them.
var (
	firstForm = regexp.MustCompile(`\A([A-Z]{1,16}) (/[!"$-~]*) HTTP/1\.1\z`)
	fieldForm = regexp.MustCompile("\\A([A-Za-z0-9!#$%&'*+.^_`|~-]+):[\t ]*([\t -~]*?)[\t ]*\\z")
	chunkForm = regexp.MustCompile("\\A([0-9a-fA-F]{1,8})(;[\t -~]*)?\\z")
	known     = regexp.MustCompile(`\A(GET|HEAD|PUT|POST|DELETE)\z`)
)

// wait is told by a plain reading where bytes are to come yet.
const wait api.Errno = -1

// plain goes over all bytes from the front, each time anew.
type plain struct{ rest string }

// line takes a line.
func (p *plain) line() (string, api.Errno) {
	ahead, behind, whole := strings.Cut(p.rest, "\r\n")
	n := len(ahead)
	if !whole && strings.HasSuffix(ahead, "\r") {
		n--
	}
	switch {
	case n > 2048:
		return "", api.ErrHead
	case !whole:
		return "", wait
	case strings.Contains(ahead, "\r") || strings.Contains(ahead, "\n"):
		return "", api.ErrBad
	}
	p.rest = behind
	return ahead, api.OK
}

// bytes takes n bytes.
func (p *plain) bytes(n int) (string, api.Errno) {
	if len(p.rest) < n {
		return "", wait
	}
	s := p.rest[:n]
	p.rest = p.rest[n:]
	return s, api.OK
}

// head takes lines up to an empty one.
func (p *plain) head(each func(name, value string) api.Errno) api.Errno {
	for n := 1; ; n++ {
		s, e := p.line()
		if e != api.OK || s == "" {
			return e
		}
		if n > 32 {
			return api.ErrHead
		}
		m := fieldForm.FindStringSubmatch(s)
		if m == nil {
			return api.ErrBad
		}
		if e := each(strings.ToLower(m[1]), m[2]); e != api.OK {
			return e
		}
	}
}

// chunks takes chunks, and what stands behind them.
func (p *plain) chunks() (string, api.Errno) {
	body := ""
	for {
		s, e := p.line()
		if e != api.OK {
			return "", e
		}
		m := chunkForm.FindStringSubmatch(s)
		if m == nil {
			return "", api.ErrBad
		}
		n, _ := strconv.ParseUint(m[1], 16, 64)
		if uint64(len(body))+n > 1<<17 {
			return "", api.ErrBody
		}
		if n == 0 {
			return body, p.head(func(string, string) api.Errno { return api.OK })
		}
		s, e = p.bytes(int(n))
		if e != api.OK {
			return "", e
		}
		body += s
		switch {
		case p.rest == "" || p.rest == "\r":
			return "", wait
		case !strings.HasPrefix(p.rest, "\r\n"):
			return "", api.ErrBad
		}
		p.rest = p.rest[2:]
	}
}

// request takes a request.
func (p *plain) request() (api.Req, api.Errno) {
	s, e := p.line()
	if e != api.OK {
		return api.Req{}, e
	}
	m := firstForm.FindStringSubmatch(s)
	if m == nil {
		return api.Req{}, api.ErrBad
	}
	if !known.MatchString(m[1]) {
		return api.Req{}, api.ErrMethod
	}
	r := api.Req{Method: m[1], Path: m[2]}
	if at := strings.IndexByte(m[2], '?'); at >= 0 {
		r.Path, r.Query = m[2][:at], m[2][at+1:]
	}
	length, coding := "", ""
	e = p.head(func(name, value string) api.Errno {
		switch {
		case name == "content-length" && length != "", name == "transfer-encoding" && coding != "":
			return api.ErrBad
		case name == "content-length":
			if length = value; !regexp.MustCompile(`\A[0-9]{1,10}\z`).MatchString(value) {
				return api.ErrBad
			}
			if n, _ := strconv.ParseUint(value, 10, 64); n > 131072 {
				return api.ErrBody
			}
		case name == "transfer-encoding":
			if coding = value; strings.ToLower(value) != "chunked" {
				return api.ErrMethod
			}
		case name == "connection":
			r.Close = r.Close || strings.ToLower(value) == "close"
		default:
			r.Heads = append(r.Heads, api.Pair{Name: name, Value: value})
		}
		return api.OK
	})
	switch {
	case e != api.OK:
	case length != "" && coding != "":
		e = api.ErrBad
	case coding != "":
		r.Body, e = p.chunks()
	case length != "":
		n, _ := strconv.Atoi(length)
		r.Body, e = p.bytes(n)
	}
	return r, e
}

// plainAll is what All is to answer.
func plainAll(b string) ([]api.Req, int, api.Errno) {
	var l []api.Req
	p := plain{b}
	for {
		size := len(b) - len(p.rest)
		r, e := p.request()
		if e == wait {
			return l, size, api.OK
		}
		if e != api.OK {
			return l, size, e
		}
		l = append(l, r)
	}
}

// sameReqs tells whether requests are the same; no list and an empty one are.
func sameReqs(a, b []api.Req) bool {
	return slices.EqualFunc(a, b, sameReq)
}

// sameReq tells whether two requests are the same.
func sameReq(a, b api.Req) bool {
	return a.Method == b.Method && a.Path == b.Path && a.Query == b.Query && slices.Equal(a.Heads, b.Heads) && a.Body == b.Body && a.Close == b.Close
}

// brief is enough of a text to know it by.
func brief(s string) string {
	if len(s) > 120 {
		return strconv.Quote(s[:60]) + ".." + strconv.Quote(s[len(s)-40:])
	}
	return strconv.Quote(s)
}

// fed are the requests that a reader tells of pieces, asked for behind each of them, and its error.
func fed(t *testing.T, pieces ...string) ([]api.Req, api.Errno) {
	t.Helper()
	r := http.New()
	var l []api.Req
	var refused api.Errno
	for _, s := range pieces {
		want := api.OK
		if refused != api.OK {
			want = api.ErrShut
		}
		if e := r.Feed(s); e != want {
			t.Errorf("Feed(%s): %v, not %v", brief(s), e, want)
		}
		for {
			q, is, e := r.Next()
			if refused != api.OK && e != refused {
				t.Errorf("Next behind %v: %v", refused, e)
			}
			if !is {
				if !sameReq(q, api.Req{}) {
					t.Errorf("Next: no request, but %v", q)
				}
				refused = e
				break
			}
			if e != api.OK {
				t.Errorf("Next: a request, and %v", e)
			}
			l = append(l, q)
		}
	}
	return l, refused
}

// reads asks that bytes are read as the chapter says: at once, in two pieces, byte by byte; and tells what was read.
func reads(t *testing.T, text string) ([]api.Req, int, api.Errno) {
	t.Helper()
	want, size, wrong := plainAll(text)
	l, n, e := http.All(text)
	if !sameReqs(l, want) || n != size || e != wrong {
		t.Errorf("All(%s): %s, %d, %v, not %s, %d, %v", brief(text), short(l), n, e, short(want), size, wrong)
	}
	ways := [][]string{{text}, {text[:len(text)/2], text[len(text)/2:]}, {"", text, ""}}
	if len(text) < 5000 {
		ways = append(ways, strings.Split(text, ""), bytewise(text))
	}
	for _, pieces := range ways {
		if l, e := fed(t, pieces...); !sameReqs(l, want) || e != wrong {
			t.Errorf("%d pieces of %s: %s, %v, not %s, %v", len(pieces), brief(text), short(l), e, short(want), wrong)
		}
	}
	return l, n, e
}

// bytewise are the bytes of a text.
func bytewise(text string) []string {
	var l []string
	for i := range len(text) {
		l = append(l, text[i:i+1])
	}
	return l
}

// refuses asks that bytes are refused with an error, and that no more of them change that.
func refuses(t *testing.T, text string, want api.Errno) {
	t.Helper()
	for _, more := range []string{"", "x", "\r", "\n", "\r\n", "\r\n\r\n", lines("GET / HTTP/1.1", ""), rep("a", 3000)} {
		if _, _, e := reads(t, text+more); e != want {
			t.Errorf("All(%s) and %s: %v, not %v", brief(text), brief(more), e, want)
		}
	}
}

// waits asks that bytes are the beginning of a request, and no more than that.
func waits(t *testing.T, text string) {
	t.Helper()
	if l, n, e := reads(t, text); len(l) != 0 || n != 0 || e != api.OK {
		t.Errorf("All(%s): %s, %d, %v", brief(text), short(l), n, e)
	}
}

// tells asks that bytes are one request, just that one, and wait without their last byte.
func tells(t *testing.T, text string, want api.Req) {
	t.Helper()
	if l, n, e := reads(t, text); !sameReqs(l, []api.Req{want}) || n != len(text) || e != api.OK {
		t.Errorf("All(%s): %s, %d, %v, not %s", brief(text), short(l), n, e, short(want))
	}
	waits(t, text[:len(text)-1])
	if l, n, e := reads(t, text+text); !sameReqs(l, []api.Req{want, want}) || n != 2*len(text) || e != api.OK {
		t.Errorf("All(%s) twice: %s, %d, %v", brief(text), short(l), n, e)
	}
}

// drawn is a text of some pieces of a list.
func drawn(r *rand.Rand, most int, from ...string) string {
	s := ""
	for range r.Intn(most + 1) {
		s += from[r.Intn(len(from))]
	}
	return s
}

// span is a stretch of memory.
type span struct{ from, to uintptr }

// spans are where the texts and lists of a value stand.
func spans(v reflect.Value) []span {
	switch v.Kind() {
	case reflect.String:
		from := uintptr(unsafe.Pointer(unsafe.StringData(v.String())))
		return []span{{from, from + uintptr(v.Len())}}
	case reflect.Slice:
		l := []span{{v.Pointer(), v.Pointer() + uintptr(v.Cap())*v.Type().Elem().Size()}}
		for i := range v.Len() {
			l = append(l, spans(v.Index(i))...)
		}
		return l
	case reflect.Struct:
		var l []span
		for i := range v.NumField() {
			l = append(l, spans(v.Field(i))...)
		}
		return l
	}
	return nil
}

// apart asks that no two values have memory in common.
func apart(t *testing.T, values ...any) {
	t.Helper()
	for i, a := range values {
		for j, b := range values[:i] {
			for _, x := range spans(reflect.ValueOf(a)) {
				for _, y := range spans(reflect.ValueOf(b)) {
					if x.from < y.to && y.from < x.to {
						t.Errorf("%d and %d have one memory: %s, %s", i, j, short(a), short(b))
						return
					}
				}
			}
		}
	}
}
