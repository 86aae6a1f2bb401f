package percent_test

import (
	"fmt"
	"math/rand"
	"net/url"
	"regexp"
	"slices"
	"strings"
	"testing"
	"unsafe"

	"stowage/api"
	"stowage/percent"
)

// rep is one text n times.
func rep(s string, n int) string { return strings.Repeat(s, n) }

// one is a text of one byte.
func one(c int) string { return string([]byte{byte(c)}) }

// letters are the plain bytes.
const letters = "ABCDEFGHIJKLMNOPQRSTUVWXYZabcdefghijklmnopqrstuvwxyz0123456789-._~"

// written is the text of bytes: those of stays as they are, all others as escapes.
func written(s, stays string) string {
	told := ""
	for _, c := range []byte(s) {
		if strings.Contains(stays, string([]byte{c})) {
			told += string([]byte{c})
		} else {
			told += fmt.Sprintf("%%%02X", c)
		}
	}
	return told
}

// A text of a path, a part of a query: byte by byte, as the chapter says.
var (
	pathForm = regexp.MustCompile(`^([!"$&->@-~]|%[0-9A-Fa-f][0-9A-Fa-f])*$`)
	partForm = regexp.MustCompile(`^([!"$'-<>-~]|%[0-9A-Fa-f][0-9A-Fa-f])+(=([!"$'-~]|%[0-9A-Fa-f][0-9A-Fa-f])*)?$`)
)

// pathOf is what a path's text says, by the library.
func pathOf(t string) (string, api.Errno) {
	if !pathForm.MatchString(t) {
		return "", api.ErrForm
	}
	s, err := url.PathUnescape(t)
	if err != nil {
		panic(err)
	}
	return s, api.OK
}

// pairsOf are the pairs that a query says, by the library.
func pairsOf(t string) ([]api.Pair, api.Errno) {
	if t == "" {
		return nil, api.OK
	}
	all := strings.Split(t, "&")
	if len(all) > 16 {
		return nil, api.ErrMany
	}
	var l []api.Pair
	for _, part := range all {
		if !partForm.MatchString(part) {
			return nil, api.ErrForm
		}
		name, value, _ := strings.Cut(part, "=")
		n, err := url.QueryUnescape(name)
		v, other := url.QueryUnescape(value)
		if err != nil || other != nil {
			panic(part)
		}
		l = append(l, api.Pair{Name: n, Value: v})
	}
	return l, api.OK
}

// queryOf is the text of pairs.
func queryOf(l []api.Pair) (string, api.Errno) {
	if len(l) > 16 {
		return "", api.ErrMany
	}
	var all []string
	for _, p := range l {
		if p.Name == "" {
			return "", api.ErrForm
		}
		s := written(p.Name, letters)
		if p.Value != "" {
			s += "=" + written(p.Value, letters)
		}
		all = append(all, s)
	}
	return strings.Join(all, "&"), api.OK
}

// reads asks that a path's text is read as the library reads it; and, if it says something, that this is written and read again.
func reads(t *testing.T, text string) {
	t.Helper()
	want, wrong := pathOf(text)
	s, e := percent.Unpath(text)
	if s != want || e != wrong {
		t.Errorf("Unpath(%q): %q, %v, not %q, %v", text, s, e, want, wrong)
	}
	if e != api.OK {
		return
	}
	if again, e := percent.Unpath(percent.Path(s)); again != s || e != api.OK {
		t.Errorf("Unpath of Path of %q: %q, %v", s, again, e)
	}
}

// asks asks that a query is read as the library reads it; and, if it says something, that this is written and read again.
func asks(t *testing.T, text string) {
	t.Helper()
	want, wrong := pairsOf(text)
	l, e := percent.Unquery(text)
	if !slices.Equal(l, want) || e != wrong {
		t.Errorf("Unquery(%q): %q, %v, not %q, %v", text, l, e, want, wrong)
	}
	if e == api.OK {
		writes(t, l)
	}
}

// writes asks that pairs are written as the chapter says, and read again.
func writes(t *testing.T, l []api.Pair) {
	t.Helper()
	want, wrong := queryOf(l)
	s, e := percent.Query(l)
	if s != want || e != wrong {
		t.Errorf("Query(%q): %q, %v, not %q, %v", l, s, e, want, wrong)
	}
	if e != api.OK {
		return
	}
	if again, e := percent.Unquery(s); !slices.Equal(again, l) || e != api.OK {
		t.Errorf("Unquery of Query of %q: %q, %v", l, again, e)
	}
}

// pairs are pairs of names and values, one behind the other.
func pairs(texts ...string) []api.Pair {
	var l []api.Pair
	for i := 0; i < len(texts); i += 2 {
		l = append(l, api.Pair{Name: texts[i], Value: texts[i+1]})
	}
	return l
}

// drawn is a text of some pieces of a list.
func drawn(r *rand.Rand, most int, from ...string) string {
	s := ""
	for range r.Intn(most + 1) {
		s += from[r.Intn(len(from))]
	}
	return s
}

// span is a stretch of memory.
type span struct{ from, to uintptr }

// textSpan is where a text stands.
func textSpan(s string) span {
	from := uintptr(unsafe.Pointer(unsafe.StringData(s)))
	return span{from, from + uintptr(len(s))}
}

// pairSpans are where pairs stand, with the room behind them.
func pairSpans(l []api.Pair) []span {
	from := uintptr(unsafe.Pointer(unsafe.SliceData(l)))
	all := []span{{from, from + uintptr(cap(l))*unsafe.Sizeof(api.Pair{})}}
	for _, p := range l {
		all = append(all, textSpan(p.Name), textSpan(p.Value))
	}
	return all
}

// disjoint asks that no two stretches have a byte in common.
func disjoint(t *testing.T, what string, all []span) {
	t.Helper()
	all = slices.DeleteFunc(slices.Clone(all), func(s span) bool { return s.from == s.to })
	slices.SortFunc(all, func(a, b span) int {
		if a.from < b.from {
			return -1
		}
		return 1
	})
	for i := 1; i < len(all); i++ {
		if all[i].from < all[i-1].to {
			t.Errorf("%s: one memory", what)
			return
		}
	}
}
