package chain_test

import (
	"fmt"
	"math"
	"slices"
	"strings"
	"testing"
	"unsafe"

	"stowage/api"
	"stowage/chain"
)

// rep is one text n times.
func rep(s string, n int) string { return strings.Repeat(s, n) }

// zeros is a digest's digits, and an extent's id.
func zeros() string { return rep("0", 64) }

// digits is a digest's digits by a number.
func digits(n int) string { return fmt.Sprintf("%064x", n) }

// pieces are pieces of these sizes, each with an id of its own.
func pieces(sizes ...int) []api.Piece {
	var l []api.Piece
	for i, size := range sizes {
		l = append(l, api.Piece{ID: digits(1000*i + size), Size: size})
	}
	return l
}

// many are n pieces of one size.
func many(n, size int) []api.Piece {
	return pieces(slices.Repeat([]int{size}, n)...)
}

// of is a version with pieces, as it should be.
func of(id int, l []api.Piece) api.Version {
	v := api.Version{ID: id, Sum: digits(id), Pieces: l}
	for _, p := range l {
		v.Size += p.Size
	}
	return v
}

// object is a version with pieces of these sizes.
func object(id int, sizes ...int) api.Version { return of(id, pieces(sizes...)) }

// mark is a delete marker.
func mark(id int) api.Version { return api.Version{ID: id, Mark: true} }

// marks are delete markers whose IDs fall from the first to the last.
func marks(first, last int) []api.Version {
	var l []api.Version
	for id := first; id >= last; id-- {
		l = append(l, mark(id))
	}
	return l
}

// with is a version that a function has changed.
func with(v api.Version, change func(v *api.Version)) api.Version {
	v.Pieces = slices.Clone(v.Pieces)
	change(&v)
	return v
}

// good are versions that may be.
func good() []api.Version {
	return []api.Version{
		object(1), object(2, 1), object(3, 4096), object(4, 4096, 1), object(api.MaxTerm, 7, 7, 7), object(api.MaxTerm-1, 1, 4096, 1),
		mark(1), mark(2), mark(api.MaxTerm), {ID: 5, Mark: true, Pieces: []api.Piece{}}, {ID: 5, Sum: rep("f", 64), Pieces: []api.Piece{}},
		of(6, many(256, 4096)), of(7, many(511, 2048)), of(8, many(512, 2048)), of(9, many(512, 1)),
		{ID: 7, Size: 3, Sum: "0123456789abcdef" + rep("a9f", 16), Pieces: []api.Piece{{ID: "fedcba9876543210" + rep("0f9", 16), Size: 3}}},
		{ID: 8, Size: 6, Sum: zeros(), Pieces: []api.Piece{{ID: zeros(), Size: 3}, {ID: zeros(), Size: 3}}},
	}
}

// notDigits are texts that are neither a digest's digits nor an extent's id.
func notDigits() []string {
	return []string{
		"", "0", rep("0", 32), rep("0", 63), rep("0", 65), rep("0", 128), rep("A", 64), rep("0", 63) + "F", "g" + rep("0", 63), rep("0", 63) + "g", rep("0", 31) + "/" + rep("0", 32), rep("0", 31) + ":" + rep("0", 32), rep("0", 31) + "`" + rep("0", 32),
		rep("\x00", 64), rep("\xff", 64), " " + rep("0", 63), rep("0", 63) + "\n", rep("0", 62) + "ä", "0x" + rep("0", 62),
	}
}

// badPieces are pieces that may not be.
func badPieces() [][]api.Piece {
	l := [][]api.Piece{many(513, 1), many(513, 4096), many(2000, 1), pieces(0), pieces(4097), pieces(-1), pieces(1, 0), pieces(0, 1), pieces(4096, 4097, 4096), pieces(5, -5), pieces(math.MinInt), pieces(math.MaxInt), pieces(math.MaxInt, math.MaxInt), pieces(math.MaxInt, 1, math.MinInt), {{}}, {{Size: 1}}, {{ID: zeros()}}}
	for _, s := range notDigits() {
		l = append(l, []api.Piece{{ID: s, Size: 1}}, []api.Piece{{ID: zeros(), Size: 1}, {ID: s, Size: 1}}, []api.Piece{{ID: s, Size: 1}, {ID: zeros(), Size: 1}})
	}
	return l
}

// badVersions are versions that may not be.
func badVersions() []api.Version {
	l := []api.Version{{}, {ID: 1}, {Mark: true}}
	for _, id := range []int{0, -1, api.MaxTerm + 1, math.MinInt, math.MaxInt} {
		l = append(l, mark(id), object(id), object(id, 5))
	}
	// A marker with something of an object.
	for _, change := range []func(v *api.Version){
		func(v *api.Version) { v.Size = 1 }, func(v *api.Version) { v.Size = -1 }, func(v *api.Version) { v.Sum = zeros() }, func(v *api.Version) { v.Sum = "x" },
		func(v *api.Version) { v.Pieces = pieces(1) }, func(v *api.Version) { v.Pieces = []api.Piece{{}} }, func(v *api.Version) { *v = object(3); v.Mark = true }, func(v *api.Version) { *v = object(3, 5); v.Mark = true },
	} {
		l = append(l, with(mark(3), change))
	}
	// A Size that is not the pieces', or is more than an object has.
	for _, size := range []int{0, 4, 6, -5, math.MinInt, math.MaxInt} {
		l = append(l, with(object(3, 5), func(v *api.Version) { v.Size = size }))
	}
	l = append(l, with(object(3), func(v *api.Version) { v.Size = 1 }), with(object(3), func(v *api.Version) { v.Size = -1 }))
	l = append(l, of(3, append(many(256, 4096), pieces(1)...)), of(3, append(many(511, 2048), pieces(2049)...)), of(3, many(512, 4096)), of(3, many(257, 4096)))
	l = append(l, with(of(3, many(257, 4096)), func(v *api.Version) { v.Size = api.MaxObject }))
	for _, p := range badPieces() {
		l = append(l, of(3, p))
	}
	for _, s := range notDigits() {
		l = append(l, with(object(3), func(v *api.Version) { v.Sum = s }), with(object(3, 5), func(v *api.Version) { v.Sum = s }))
	}
	return l
}

// chains are lists that are chains.
func chains() [][]api.Version {
	l := [][]api.Version{nil, {}, {object(9, 5), mark(8), object(3, 1, 2)}, {mark(api.MaxTerm), object(api.MaxTerm-1, 9), mark(1)}, {object(2), object(1)}, marks(32, 1), marks(31, 1), marks(api.MaxTerm, api.MaxTerm-31)}
	for _, v := range good() {
		l = append(l, []api.Version{v})
	}
	return l
}

// badChains are lists that are no chains.
func badChains() [][]api.Version {
	l := [][]api.Version{
		{mark(3), mark(3)}, {mark(3), mark(4)}, {object(3, 5), object(3, 5)}, {object(3, 5), mark(3)}, {mark(9), mark(3), mark(5)}, {mark(9), mark(5), mark(5)}, {object(9, 1), object(9, 1), object(1, 1)}, {mark(5), mark(9), mark(3)},
		marks(33, 1), marks(34, 1), marks(1000, 1), append(marks(32, 1), mark(0)), append(marks(31, 1), mark(1)), append(marks(31, 1), mark(32)), {mark(5), {}}, {{}, mark(5)},
	}
	for _, v := range badVersions() {
		l = append(l, []api.Version{v}, []api.Version{mark(api.MaxTerm), v, mark(1)}, []api.Version{v, mark(1)}, []api.Version{object(9, 5), v})
	}
	return l
}

// short is a list's IDs, for what a test tells.
func short(l []api.Version) string {
	s := fmt.Sprintf("%d versions", len(l))
	for i, v := range l {
		if i < 4 {
			s += fmt.Sprintf(" (%d %v %d %.70q %d pieces)", v.ID, v.Mark, v.Size, v.Sum, len(v.Pieces))
		}
	}
	return s
}

// equal tells whether two versions are the same.
func equal(a, b api.Version) bool {
	return a.ID == b.ID && a.Mark == b.Mark && a.Size == b.Size && a.Sum == b.Sum && slices.Equal(a.Pieces, b.Pieces)
}

// isChain asks that a call answers a chain.
func isChain(t *testing.T, what string, got []api.Version, e api.Errno, want ...api.Version) {
	t.Helper()
	if e != api.OK || !slices.EqualFunc(got, want, equal) {
		t.Errorf("%s: %v, %s, not %s", what, e, short(got), short(want))
	}
}

// noChain asks that a call answers an error, and no list beside it.
func noChain(t *testing.T, what string, got []api.Version, e, want api.Errno) {
	t.Helper()
	if e != want || len(got) != 0 {
		t.Errorf("%s: %v, not %v, %s", what, e, want, short(got))
	}
}

// isVersion asks that a call answers a version, or an error and none.
func isVersion(t *testing.T, what string, got api.Version, e api.Errno, want api.Version, fails api.Errno) {
	t.Helper()
	if e != fails || !equal(got, want) {
		t.Errorf("%s: %v, not %v, %s", what, e, fails, short([]api.Version{got}))
	}
}

// put is a chain that was put together version by version, the oldest first.
func put(t *testing.T, l ...api.Version) []api.Version {
	t.Helper()
	var got []api.Version
	for _, v := range l {
		var e api.Errno
		if got, e = chain.Put(got, v); e != api.OK {
			t.Fatalf("Put of %d: %v", v.ID, e)
		}
	}
	return got
}

// span is a stretch of memory.
type span struct{ from, to uintptr }

// textSpan is where a text stands.
func textSpan(s string) span {
	from := uintptr(unsafe.Pointer(unsafe.StringData(s)))
	return span{from, from + uintptr(len(s))}
}

// listSpan is where a list stands, with the room behind it.
func listSpan[T any](l []T) span {
	var one T
	from := uintptr(unsafe.Pointer(unsafe.SliceData(l)))
	return span{from, from + uintptr(cap(l))*unsafe.Sizeof(one)}
}

// spans are all stretches of memory of versions, but for the list that they stand in.
func spans(l []api.Version) []span {
	var all []span
	for _, v := range l {
		all = append(all, textSpan(v.Sum), listSpan(v.Pieces))
		for _, p := range v.Pieces {
			all = append(all, textSpan(p.ID))
		}
	}
	return all
}

// disjoint asks that no two stretches have a byte in common.
func disjoint(t *testing.T, what string, all []span) {
	t.Helper()
	all = slices.DeleteFunc(slices.Clone(all), func(s span) bool { return s.from == s.to })
	slices.SortFunc(all, func(a, b span) int {
		if a.from < b.from {
			return -1
		}
		return 1
	})
	for i := 1; i < len(all); i++ {
		if all[i].from < all[i-1].to {
			t.Errorf("%s: one memory", what)
			return
		}
	}
}
