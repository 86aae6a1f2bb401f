package parts_test

import (
	"fmt"
	"math"
	"slices"
	"strings"
	"testing"
	"unsafe"

	"stowage/api"
	"stowage/parts"
)

// rep is one text n times.
func rep(s string, n int) string { return strings.Repeat(s, n) }

// zeros is a digest's digits, and an extent's id.
func zeros() string { return rep("0", 64) }

// digits is a digest's digits by a number.
func digits(n int) string { return fmt.Sprintf("%064x", n) }

// pieces are pieces of these sizes, each with an id of its own.
func pieces(sizes ...int) []api.Piece {
	var l []api.Piece
	for i, size := range sizes {
		l = append(l, api.Piece{ID: digits(1000*i + size), Size: size})
	}
	return l
}

// many are n pieces of one size.
func many(n, size int) []api.Piece {
	return pieces(slices.Repeat([]int{size}, n)...)
}

// of is a part with pieces, as it should be.
func of(n int, l []api.Piece) api.Part {
	p := api.Part{N: n, Sum: digits(n), Pieces: l}
	for _, x := range l {
		p.Size += x.Size
	}
	return p
}

// part is a part with pieces of these sizes.
func part(n int, sizes ...int) api.Part { return of(n, pieces(sizes...)) }

// with is a part that a function has changed.
func with(p api.Part, change func(p *api.Part)) api.Part {
	p.Pieces = slices.Clone(p.Pieces)
	change(&p)
	return p
}

// summed is a part with another digest.
func summed(p api.Part, sum string) api.Part {
	return with(p, func(p *api.Part) { p.Sum = sum })
}

// good are parts that may be, each by itself.
func good() []api.Part {
	return []api.Part{
		part(1), part(2), part(99, 1), part(100, 4096), part(50, 4095, 1), part(3, 1, 4096, 7), {N: 5, Sum: rep("f", 64), Pieces: []api.Piece{}},
		of(6, many(511, 1)), of(7, many(512, 1)), of(8, many(256, 4096)), of(9, many(257, 4096)), of(10, many(512, 4096)),
		{N: 7, Size: 3, Sum: "0123456789abcdef" + rep("a9f", 16), Pieces: []api.Piece{{ID: "fedcba9876543210" + rep("0f9", 16), Size: 3}}},
		{N: 8, Size: 6, Sum: zeros(), Pieces: []api.Piece{{ID: zeros(), Size: 3}, {ID: zeros(), Size: 3}}},
	}
}

// notDigits are texts that are neither a digest's digits nor an extent's id.
func notDigits() []string {
	return []string{
		"", "0", rep("0", 32), rep("0", 63), rep("0", 65), rep("0", 128), rep("A", 64), rep("0", 63) + "F", "g" + rep("0", 63), rep("0", 63) + "g", rep("0", 31) + "/" + rep("0", 32), rep("0", 31) + ":" + rep("0", 32), rep("0", 31) + "`" + rep("0", 32),
		rep("\x00", 64), rep("\xff", 64), " " + rep("0", 63), rep("0", 63) + "\n", rep("0", 62) + "ä", "0x" + rep("0", 62),
	}
}

// badPieces are pieces that may not be.
func badPieces() [][]api.Piece {
	l := [][]api.Piece{many(513, 1), many(513, 4096), many(2000, 1), pieces(0), pieces(4097), pieces(-1), pieces(1, 0), pieces(0, 1), pieces(4096, 4097, 4096), pieces(5, -5), pieces(math.MinInt), pieces(math.MaxInt), pieces(math.MaxInt, math.MaxInt), pieces(math.MaxInt, 1, math.MinInt), {{}}, {{Size: 1}}, {{ID: zeros()}}}
	for _, s := range notDigits() {
		l = append(l, []api.Piece{{ID: s, Size: 1}}, []api.Piece{{ID: zeros(), Size: 1}, {ID: s, Size: 1}}, []api.Piece{{ID: s, Size: 1}, {ID: zeros(), Size: 1}})
	}
	return l
}

// bad are parts that may not be.
func bad() []api.Part {
	l := []api.Part{{}, {N: 1}}
	for _, n := range []int{0, -1, 101, 1000, math.MinInt, math.MaxInt} {
		l = append(l, summed(part(n), zeros()), summed(part(n, 5), zeros()))
	}
	for _, size := range []int{0, 4, 6, -5, math.MinInt, math.MaxInt} {
		l = append(l, with(part(3, 5), func(p *api.Part) { p.Size = size }))
	}
	l = append(l, with(part(3), func(p *api.Part) { p.Size = 1 }), with(part(3), func(p *api.Part) { p.Size = -1 }))
	for _, x := range badPieces() {
		l = append(l, of(3, x))
	}
	for _, s := range notDigits() {
		l = append(l, summed(part(3), s), summed(part(3, 5), s))
	}
	return l
}

// all100 is a part of each number.
func all100() []api.Part {
	var l []api.Part
	for n := 1; n <= 100; n++ {
		l = append(l, part(n, 64+n))
	}
	return l
}

// lists are lists that are parts.
func lists() [][]api.Part {
	l := [][]api.Part{nil, {}, {part(1, 5), part(2), part(3, 1, 2)}, {part(1, 64), part(50, 64), part(100, 1)}, {part(99), part(100)}, all100(), all100()[:99], all100()[1:]}
	for _, p := range good() {
		l = append(l, []api.Part{p})
	}
	return l
}

// badLists are lists that are no parts.
func badLists() [][]api.Part {
	l := [][]api.Part{
		{part(3), part(3)}, {part(3, 5), part(3, 5)}, {part(4), part(3)}, {part(1), part(9), part(5)}, {part(1), part(5), part(5)}, {part(5), part(1), part(9)},
		append(all100(), part(101)), append(all100(), part(100)), append(all100(), part(1)), append([]api.Part{summed(part(0), zeros())}, all100()...), {part(5), {}}, {{}, part(5)},
	}
	for _, p := range bad() {
		l = append(l, []api.Part{p}, []api.Part{part(1), p, part(100)}, []api.Part{p, part(100)}, []api.Part{part(2, 5), p})
	}
	return l
}

// short is a list's numbers, for what a test tells.
func short(l []api.Part) string {
	s := fmt.Sprintf("%d parts", len(l))
	for i, p := range l {
		if i < 4 {
			s += fmt.Sprintf(" (%d %d %.70q %d pieces)", p.N, p.Size, p.Sum, len(p.Pieces))
		}
	}
	return s
}

// equal tells whether two parts are the same.
func equal(a, b api.Part) bool {
	return a.N == b.N && a.Size == b.Size && a.Sum == b.Sum && slices.Equal(a.Pieces, b.Pieces)
}

// areParts asks that a call answers parts.
func areParts(t *testing.T, what string, got []api.Part, e api.Errno, want ...api.Part) {
	t.Helper()
	if e != api.OK || !slices.EqualFunc(got, want, equal) {
		t.Errorf("%s: %v, %s, not %s", what, e, short(got), short(want))
	}
}

// noParts asks that a call answers an error, and no list beside it.
func noParts(t *testing.T, what string, got []api.Part, e, want api.Errno) {
	t.Helper()
	if e != want || len(got) != 0 {
		t.Errorf("%s: %v, not %v, %s", what, e, want, short(got))
	}
}

// sameVersion tells whether two versions are the same.
func sameVersion(a, b api.Version) bool {
	return a.ID == b.ID && a.Mark == b.Mark && a.Size == b.Size && a.Sum == b.Sum && slices.Equal(a.Pieces, b.Pieces)
}

// pickOf names a part.
func pickOf(p api.Part) api.Pick { return api.Pick{N: p.N, Sum: p.Sum} }

// picksOf name parts.
func picksOf(l ...api.Part) []api.Pick {
	var picks []api.Pick
	for _, p := range l {
		picks = append(picks, pickOf(p))
	}
	return picks
}

// put are parts that were put one by one.
func put(t *testing.T, l ...api.Part) []api.Part {
	t.Helper()
	var got []api.Part
	for _, p := range l {
		var e api.Errno
		if got, e = parts.Put(got, p); e != api.OK {
			t.Fatalf("Put of %d: %v", p.N, e)
		}
	}
	return got
}

// span is a stretch of memory.
type span struct{ from, to uintptr }

// textSpan is where a text stands.
func textSpan(s string) span {
	from := uintptr(unsafe.Pointer(unsafe.StringData(s)))
	return span{from, from + uintptr(len(s))}
}

// listSpan is where a list stands, with the room behind it.
func listSpan[T any](l []T) span {
	var one T
	from := uintptr(unsafe.Pointer(unsafe.SliceData(l)))
	return span{from, from + uintptr(cap(l))*unsafe.Sizeof(one)}
}

// pieceSpans are all stretches of memory of pieces.
func pieceSpans(l []api.Piece) []span {
	all := []span{listSpan(l)}
	for _, p := range l {
		all = append(all, textSpan(p.ID))
	}
	return all
}

// spans are all stretches of memory of parts.
func spans(l []api.Part) []span {
	all := []span{listSpan(l)}
	for _, p := range l {
		all = append(append(all, textSpan(p.Sum)), pieceSpans(p.Pieces)...)
	}
	return all
}

// disjoint asks that no two stretches have a byte in common.
func disjoint(t *testing.T, what string, all []span) {
	t.Helper()
	all = slices.DeleteFunc(slices.Clone(all), func(s span) bool { return s.from == s.to })
	slices.SortFunc(all, func(a, b span) int {
		if a.from < b.from {
			return -1
		}
		return 1
	})
	for i := 1; i < len(all); i++ {
		if all[i].from < all[i-1].to {
			t.Errorf("%s: one memory", what)
			return
		}
	}
}
