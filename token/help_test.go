package token_test

import (
	"fmt"
	"math"
	"slices"
	"strings"
	"testing"
	"unsafe"

	"stowage/api"
	"stowage/token"
)

// rep is one text n times.
func rep(s string, n int) string { return strings.Repeat(s, n) }

// zeros is a digest's digits.
func zeros() string { return rep("0", 64) }

// digits is a digest's digits by a number.
func digits(n int) string { return fmt.Sprintf("%064x", n) }

// held is a kept token that may be.
func held(name string, at int) api.Held {
	return api.Held{Token: strings.Clone(name), Sum: digits(at), Out: fmt.Sprintf("out %s %d", name, at), At: at}
}

// with is a kept token that a function has changed.
func with(change func(h *api.Held)) api.Held {
	h := held("m", 7)
	change(&h)
	return h
}

// named are kept tokens by these names, at 1, 2 and so on.
func named(names ...string) []api.Held {
	var l []api.Held
	for i, name := range names {
		l = append(l, held(name, i+1))
	}
	return l
}

// rising are n kept tokens whose names rise.
func rising(n int) []api.Held {
	var l []api.Held
	for i := range n {
		l = append(l, held(fmt.Sprintf("t%03d", 2*i+1), i+1))
	}
	return l
}

// notDigits are texts that are no digest's digits.
func notDigits() []string {
	return []string{
		"", "0", rep("0", 32), rep("0", 63), rep("0", 65), rep("0", 128), rep("A", 64), rep("0", 63) + "F", "g" + rep("0", 63), rep("0", 63) + "g", rep("0", 31) + "/" + rep("0", 32), rep("0", 31) + ":" + rep("0", 32), rep("0", 31) + "`" + rep("0", 32),
		rep("\x00", 64), rep("\xff", 64), " " + rep("0", 63), rep("0", 63) + "\n", rep("0", 62) + "ä", "0x" + rep("0", 62),
	}
}

// notTokens are texts that are no clients' tokens.
func notTokens() []string {
	return []string{"", " ", "a b", " m", "m ", "m\n", "\x00", "m\x00", "m\x7f", "m\x80", "\xff", "ä", rep("m", 65), rep("m", 128), rep("m", 1024), rep("m", 1025), rep("m", 5000)}
}

// good are kept tokens that may be, each by itself.
func good() []api.Held {
	l := []api.Held{held("m", 7), {Token: "m", Sum: zeros(), At: 1}}
	for _, name := range []string{"!", "~", "a", "A", "0", "x-token:1/2", rep("m", 63), rep("m", 64), rep("~", 64), rep("!", 64)} {
		l = append(l, with(func(h *api.Held) { h.Token = name }))
	}
	for _, sum := range []string{zeros(), rep("f", 64), rep("9", 64), rep("a", 64), "0123456789abcdef" + rep("a9f", 16)} {
		l = append(l, with(func(h *api.Held) { h.Sum = sum }))
	}
	for _, out := range []string{"", "\x00", "\xff", rep("\x00", 4095), rep("o", 4096), rep("\xff", 4096)} {
		l = append(l, with(func(h *api.Held) { h.Out = out }))
	}
	for _, at := range []int{1, 2, 127, 128, 1<<32 + 1, 1<<40 - 1, 1 << 40} {
		l = append(l, with(func(h *api.Held) { h.At = at }))
	}
	return l
}

// bad are kept tokens that may not be.
func bad() []api.Held {
	l := []api.Held{{}}
	for _, name := range notTokens() {
		l = append(l, with(func(h *api.Held) { h.Token = name }))
	}
	for _, sum := range notDigits() {
		l = append(l, with(func(h *api.Held) { h.Sum = sum }))
	}
	for _, n := range []int{4097, 4098, 8192, 1 << 20} {
		l = append(l, with(func(h *api.Held) { h.Out = rep("o", n) }))
	}
	for _, at := range []int{0, -1, -7, 1<<40 + 1, 1 << 41, math.MinInt, math.MaxInt} {
		l = append(l, with(func(h *api.Held) { h.At = at }))
	}
	return l
}

// tables are lists that are tables.
func tables() [][]api.Held {
	l := [][]api.Held{
		nil, {}, named("a", "b"), named("A", "a"), named("a", "aa", "ab", "b"), named("!", "~"), named("B", "a"), named("10", "9"), named("a", "a!", "a~"), named(rep("m", 63), rep("m", 64), rep("m", 63)+"n"),
		{held("a", 9), held("b", 3), held("c", 9)}, rising(2), rising(63), rising(64),
	}
	for _, h := range good() {
		l = append(l, []api.Held{h})
	}
	return l
}

// noTables are lists that are no tables.
func noTables() [][]api.Held {
	l := [][]api.Held{
		named("a", "a"), {held("a", 3), held("a", 3)}, named("b", "a"), named("a", "A"), named("9", "10"), named("ab", "a"), named("a", "c", "b"), named("b", "a", "c"), named("a", "b", "b"), named("a", "a", "b"), named("c", "b", "a"),
		rising(65), rising(66), rising(200), append(rising(64), held("t000", 3)), append(rising(63), held("t001", 3)), append([]api.Held{held("u", 3)}, rising(63)...), {{}, held("a", 3)}, {held("a", 3), {}},
	}
	for _, h := range bad() {
		l = append(l, []api.Held{h}, []api.Held{held("a", 3), h, held("z", 4)}, []api.Held{h, held("z", 4)}, []api.Held{held("a", 3), h})
	}
	return l
}

// short is a list's names, for what a test tells.
func short(l []api.Held) string {
	s := fmt.Sprintf("%d tokens", len(l))
	for i, h := range l {
		if i < 4 {
			s += fmt.Sprintf(" (%.70q %.70q %d bytes, %d)", h.Token, h.Sum, len(h.Out), h.At)
		}
	}
	return s
}

// isTable asks that a call answers a table.
func isTable(t *testing.T, what string, got []api.Held, e api.Errno, want ...api.Held) {
	t.Helper()
	if e != api.OK || !slices.Equal(got, want) {
		t.Errorf("%s: %v, %s, not %s", what, e, short(got), short(want))
	}
}

// noTable asks that a call answers an error, and no list beside it.
func noTable(t *testing.T, what string, got []api.Held, e, want api.Errno) {
	t.Helper()
	if e != want || len(got) != 0 {
		t.Errorf("%s: %v, not %v, %s", what, e, want, short(got))
	}
}

// looks asks what a token is, and what is told beside it.
func looks(t *testing.T, what string, l []api.Held, name, sum string, want int, out string) {
	t.Helper()
	if got, told := token.Look(l, name, sum); got != want || told != out {
		t.Errorf("%s: Look(%.70q, %.70q): %d, %.80q, not %d, %.80q", what, name, sum, got, told, want, out)
	}
}

// expires asks what is left, and how many went.
func expires(t *testing.T, what string, l []api.Held, upto, went int, want ...api.Held) {
	t.Helper()
	got, n := token.Expire(l, upto)
	if n != went || !slices.Equal(got, want) {
		t.Errorf("%s: Expire(%d): %d went, not %d; %s, not %s", what, upto, n, went, short(got), short(want))
	}
}

// span is a stretch of memory.
type span struct{ from, to uintptr }

// textSpan is where a text stands.
func textSpan(s string) span {
	from := uintptr(unsafe.Pointer(unsafe.StringData(s)))
	return span{from, from + uintptr(len(s))}
}

// spans are all stretches of memory of kept tokens: where the list stands, with the room behind it, and the texts.
func spans(l []api.Held) []span {
	from := uintptr(unsafe.Pointer(unsafe.SliceData(l)))
	all := []span{{from, from + uintptr(cap(l))*unsafe.Sizeof(api.Held{})}}
	for _, h := range l {
		all = append(all, textSpan(h.Token), textSpan(h.Sum), textSpan(h.Out))
	}
	return all
}

// disjoint asks that no two stretches have a byte in common.
func disjoint(t *testing.T, what string, all []span) {
	t.Helper()
	all = slices.DeleteFunc(slices.Clone(all), func(s span) bool { return s.from == s.to })
	slices.SortFunc(all, func(a, b span) int {
		if a.from < b.from {
			return -1
		}
		return 1
	})
	for i := 1; i < len(all); i++ {
		if all[i].from < all[i-1].to {
			t.Errorf("%s: one memory", what)
			return
		}
	}
}
