package cmd_test

import (
	"fmt"
	"math"
	"reflect"
	"slices"
	"strings"
	"testing"
	"unsafe"

	"stowage/api"
	"stowage/cmd"
)

// rep is one text n times.
func rep(s string, n int) string { return strings.Repeat(s, n) }

// digits is a digest's digits by a number.
func digits(n int) string { return fmt.Sprintf("%064x", n) }

// pieces are pieces of these sizes, each with an id of its own.
func pieces(sizes ...int) []api.Piece {
	var l []api.Piece
	for i, size := range sizes {
		l = append(l, api.Piece{ID: digits(10000*i + size), Size: size})
	}
	return l
}

// many are n pieces of one size.
func many(n, size int) []api.Piece {
	return pieces(slices.Repeat([]int{size}, n)...)
}

// picks are picks of these numbers, each with a digest of its own.
func picks(numbers ...int) []api.Pick {
	var l []api.Pick
	for i, n := range numbers {
		l = append(l, api.Pick{N: n, Sum: digits(i)})
	}
	return l
}

// has are the fields of each kind, as the chapter's table says, with the Token, in the order of the text.
func has(kind int) string {
	switch kind {
	case api.CmdMake, api.CmdDrop:
		return "Token Bucket"
	case api.CmdPut:
		return "Token Bucket Key Sum Pieces"
	case api.CmdMark, api.CmdBegin:
		return "Token Bucket Key"
	case api.CmdErase, api.CmdStop:
		return "Token Bucket Key ID"
	case api.CmdPart:
		return "Token Bucket Key ID N Sum Pieces"
	case api.CmdJoin:
		return "Token Bucket Key ID Picks"
	case api.CmdExpire:
		return "ID"
	}
	return ""
}

// hasField tells whether a kind has a field.
func hasField(kind int, name string) bool {
	return slices.Contains(strings.Fields(has(kind)), name)
}

// fieldNames are all fields beside the kind.
func fieldNames() []string {
	return []string{"Token", "Bucket", "Key", "ID", "N", "Sum", "Pieces", "Picks"}
}

// value is what a field may be set to: whether it is right where a kind has that field.
type value struct {
	v     any
	right bool
}

// these are values that are right, or not.
func these[T any](right bool, l ...T) []value {
	var all []value
	for _, v := range l {
		all = append(all, value{v, right})
	}
	return all
}

// set is a command with a field set to a value.
func set(c api.Cmd, name string, v any) api.Cmd {
	f := reflect.ValueOf(&c).Elem().FieldByName(name)
	f.Set(reflect.ValueOf(v))
	return c
}

// isNothing tells whether a value is nothing: an empty text or list, or 0.
func isNothing(v any) bool {
	x := reflect.ValueOf(v)
	if x.Kind() == reflect.Slice {
		return x.Len() == 0
	}
	return x.IsZero()
}

// notDigits are texts that are neither a digest's digits nor an extent's id.
func notDigits() []string {
	return []string{
		"", "0", rep("0", 32), rep("0", 63), rep("0", 65), rep("0", 128), rep("A", 64), rep("0", 63) + "F", "g" + rep("0", 63), rep("0", 63) + "g", rep("0", 31) + "/" + rep("0", 32), rep("0", 31) + ":" + rep("0", 32), rep("0", 31) + "`" + rep("0", 32),
		rep("\x00", 64), rep("\xff", 64), " " + rep("0", 63), rep("0", 63) + "\n", rep("0", 62) + "ä", "0x" + rep("0", 62),
	}
}

// manyDigits are digests' digits.
func manyDigits() []string {
	return []string{digits(0), digits(77), rep("f", 64), rep("9", 64), rep("a", 64), "0123456789abcdef" + rep("a9f", 16)}
}

// pieceValues are lists of pieces.
func pieceValues() []value {
	l := these(true, nil, []api.Piece{}, pieces(1), pieces(4096), pieces(2, 4095), pieces(7, 7, 7), many(511, 1), many(512, 1), many(512, 2048), many(256, 4096), append(many(255, 4096), pieces(4095, 1)...), []api.Piece{{ID: digits(3), Size: 3}, {ID: digits(3), Size: 3}})
	l = append(l, these(false, pieces(0), pieces(4097), pieces(-1), pieces(1, 0), pieces(0, 1), pieces(5, -5), pieces(math.MinInt), pieces(math.MaxInt), pieces(math.MaxInt, math.MaxInt, 2), many(513, 1), many(2000, 1))...)
	l = append(l, these(false, append(many(256, 4096), pieces(1)...), many(257, 4096), many(512, 4096), append(many(511, 2048), pieces(2049)...), []api.Piece{{}})...)
	for _, s := range notDigits() {
		l = append(l, these(false, []api.Piece{{ID: s, Size: 1}}, []api.Piece{{ID: digits(1), Size: 1}, {ID: s, Size: 1}, {ID: digits(2), Size: 1}})...)
	}
	for _, s := range manyDigits() {
		l = append(l, these(true, []api.Piece{{ID: s, Size: 1}})...)
	}
	return l
}

// pickValues are lists of picks.
func pickValues() []value {
	l := these(true, nil, []api.Pick{}, picks(0), picks(1), picks(100), picks(1, 2, 3), picks(3, 2, 1), picks(5, 5), picks(0, 100, 0), picks(slices.Repeat([]int{1}, 99)...), picks(slices.Repeat([]int{100}, 100)...))
	l = append(l, these(false, picks(-1), picks(101), picks(1, 101), picks(101, 1), picks(1, -1, 2), picks(math.MinInt), picks(math.MaxInt), picks(slices.Repeat([]int{1}, 101)...), picks(make([]int, 1000)...), []api.Pick{{}}, []api.Pick{{N: 1}})...)
	for _, s := range notDigits() {
		l = append(l, these(false, []api.Pick{{N: 1, Sum: s}}, []api.Pick{{N: 1, Sum: digits(1)}, {N: 2, Sum: s}, {N: 3, Sum: digits(2)}})...)
	}
	for _, s := range manyDigits() {
		l = append(l, these(true, []api.Pick{{N: 1, Sum: s}})...)
	}
	return l
}

// values are what a field of a kind may be set to: at its bounds, beyond them, and nothing.
func values(kind int, name string) []value {
	switch name {
	case "Token":
		return append(these(true, "", "t", "!", "~", "a-token:1/2", rep("t", 63), rep("~", 64)), these(false, " ", "a b", "t ", " t", "t\n", "\x00", "t\x00", "t\x7f", "\x80", "ä", rep("t", 65), rep("t", 1024), rep("t", 1025), rep("t", 5000))...)
	case "Bucket":
		return append(these(true, "abc", "one", "a.b-c", "0-9", rep("b", 62), rep("b", 63)), these(false, "", "a", "ab", rep("b", 64), rep("b", 1024), rep("b", 1025), "Abc", "a..b", ".ab", "ab-", "a_b", "a/b", "a b", "abc\x00", "äää")...)
	case "Key":
		return append(these(true, "k", "/", " ", "\xff", "\x01", "a/b/ä", rep("k", 1023), rep("\xff", 1024)), these(false, "", "\x00", "k\x00", "\x00k", rep("k", 1025), rep("k", 5000))...)
	case "ID":
		l := append(these(true, 1, 2, 127, 128, 1<<32+1, 1<<40-1, 1<<40), these(false, -1, -7, 1<<40+1, 1<<41, math.MinInt, math.MaxInt)...)
		return append(l, value{0, kind == api.CmdExpire})
	case "N":
		return append(these(true, 1, 2, 50, 99, 100), these(false, 0, -1, 101, 102, 1<<32+1, math.MinInt, math.MaxInt)...)
	case "Sum":
		return append(these(true, manyDigits()...), these(false, notDigits()...)...)
	case "Pieces":
		return pieceValues()
	}
	return pickValues()
}

// plain is a command of a kind, with something in each field that it has.
func plain(kind int) api.Cmd {
	c := api.Cmd{Kind: kind}
	for _, f := range strings.Fields(has(kind)) {
		c = set(c, f, map[string]any{"Token": "tok", "Bucket": "one", "Key": "k", "ID": 7, "N": 9, "Sum": digits(5), "Pieces": pieces(6, 4096), "Picks": picks(3, 100)}[f])
	}
	return c
}

// kinds are all kinds.
func kinds() []int { return []int{1, 2, 3, 4, 5, 6, 7, 8, 9, 10} }

// good are commands that may be: each kind, with each field that it has at its bounds.
func good() []api.Cmd {
	var l []api.Cmd
	for _, kind := range kinds() {
		l = append(l, plain(kind))
		for _, f := range strings.Fields(has(kind)) {
			for _, v := range values(kind, f) {
				if v.right {
					l = append(l, set(plain(kind), f, v.v))
				}
			}
		}
	}
	return l
}

// bad are commands that may not be: each kind, with each field that it has beyond its bounds.
func bad() []api.Cmd {
	var l []api.Cmd
	for _, kind := range kinds() {
		for _, f := range strings.Fields(has(kind)) {
			for _, v := range values(kind, f) {
				if !v.right {
					l = append(l, set(plain(kind), f, v.v))
				}
			}
		}
	}
	return l
}

// equal tells whether two commands are the same.
func equal(a, b api.Cmd) bool {
	same := a.Kind == b.Kind && a.Token == b.Token && a.Bucket == b.Bucket && a.Key == b.Key && a.ID == b.ID && a.N == b.N && a.Sum == b.Sum
	return same && slices.Equal(a.Pieces, b.Pieces) && slices.Equal(a.Picks, b.Picks)
}

// short is a command, for what a test tells.
func short(c api.Cmd) string {
	s := fmt.Sprintf("%d %.70q %.70q %.20q (%d bytes) %d %d %.70q", c.Kind, c.Token, c.Bucket, c.Key, len(c.Key), c.ID, c.N, c.Sum)
	return s + fmt.Sprintf(" %d pieces %.200v, %d picks %.200v", len(c.Pieces), fmt.Sprint(c.Pieces), len(c.Picks), fmt.Sprint(c.Picks))
}

// refused asks that each call tells that a command may not be, and nothing beside the error.
func refused(t *testing.T, what string, c api.Cmd) {
	t.Helper()
	if e := cmd.Check(c); e != api.ErrArg {
		t.Errorf("%s: Check: %v, of %s", what, e, short(c))
	}
	if s, e := cmd.Encode(c); s != "" || e != api.ErrArg {
		t.Errorf("%s: Encode: %.80q, %v, of %s", what, s, e, short(c))
	}
	if s, e := cmd.Digest(c); s != "" || e != api.ErrArg {
		t.Errorf("%s: Digest: %q, %v, of %s", what, s, e, short(c))
	}
}

// span is a stretch of memory.
type span struct{ from, to uintptr }

// textSpan is where a text stands.
func textSpan(s string) span {
	from := uintptr(unsafe.Pointer(unsafe.StringData(s)))
	return span{from, from + uintptr(len(s))}
}

// listSpan is where a list stands, with the room behind it.
func listSpan[T any](l []T) span {
	var one T
	from := uintptr(unsafe.Pointer(unsafe.SliceData(l)))
	return span{from, from + uintptr(cap(l))*unsafe.Sizeof(one)}
}

// spans are all stretches of memory of a command.
func spans(c api.Cmd) []span {
	all := []span{textSpan(c.Token), textSpan(c.Bucket), textSpan(c.Key), textSpan(c.Sum), listSpan(c.Pieces), listSpan(c.Picks)}
	for _, p := range c.Pieces {
		all = append(all, textSpan(p.ID))
	}
	for _, k := range c.Picks {
		all = append(all, textSpan(k.Sum))
	}
	return all
}

// disjoint asks that no two stretches have a byte in common.
func disjoint(t *testing.T, what string, all []span) {
	t.Helper()
	all = slices.DeleteFunc(slices.Clone(all), func(s span) bool { return s.from == s.to })
	slices.SortFunc(all, func(a, b span) int {
		if a.from < b.from {
			return -1
		}
		return 1
	})
	for i := 1; i < len(all); i++ {
		if all[i].from < all[i-1].to {
			t.Errorf("%s: one memory", what)
			return
		}
	}
}
