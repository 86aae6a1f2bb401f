package parts_test

import (
	"crypto/sha256"
	"encoding/binary"
	"fmt"
	"math"
	"math/rand"
	"slices"
	"strings"
	"testing"

	"stowage/api"
	"stowage/chain"
	"stowage/digest"
	"stowage/extent"
	"stowage/parts"
)

// noJoin asks that parts are not put together, and nothing is told beside the error.
func noJoin(t *testing.T, what string, l []api.Part, picks []api.Pick, want api.Errno) {
	t.Helper()
	if v, e := parts.Join(l, picks); e != want || !sameVersion(v, api.Version{}) {
		t.Errorf("%s: %v, not %v, %d bytes", what, e, want, v.Size)
	}
}

// joined is what is put together, by the words of the chapter.
func joined(l ...api.Part) api.Version {
	var v api.Version
	text := []byte("M")
	for _, p := range l {
		v.Size += p.Size
		v.Pieces = append(v.Pieces, p.Pieces...)
		text = binary.BigEndian.AppendUint64(text, uint64(len(p.Sum)))
		text = append(text, p.Sum...)
	}
	v.Sum = fmt.Sprintf("%x", sha256.Sum256(text))
	return v
}

// joins asks that parts are put together as the chapter says.
func joins(t *testing.T, what string, l, want []api.Part) {
	t.Helper()
	v, e := parts.Join(l, picksOf(want...))
	if e != api.OK || !sameVersion(v, joined(want...)) {
		t.Errorf("%s: %v, %d bytes, %d pieces, %s", what, e, v.Size, len(v.Pieces), v.Sum)
	}
	// With a number it is a version that may be.
	v.ID = 1
	if e := chain.Check(v); e != api.OK {
		t.Errorf("%s: chain.Check: %v", what, e)
	}
}

// Promise 14.2: all parts, one, some, and a last one that is small or empty.
func TestJoin(t *testing.T) {
	l := []api.Part{part(1, 64), part(2, 4096, 70), part(7, 100), part(50, 1), part(100)}
	for set := 1; set < 1<<len(l); set++ {
		var want []api.Part
		for i, p := range l {
			if set>>i&1 != 0 {
				want = append(want, p)
			}
		}
		small := slices.ContainsFunc(want[:len(want)-1], func(p api.Part) bool { return p.Size < 64 })
		if small {
			noJoin(t, fmt.Sprintf("Join of the set %b", set), l, picksOf(want...), api.ErrSmall)
		} else {
			joins(t, fmt.Sprintf("Join of the set %b", set), l, want)
		}
	}
	joins(t, "Join of all numbers", all100(), all100())
}

// Promise 14.2: the digest of what is joined is of the Sums, one by one, and of nothing else.
func TestJoinSum(t *testing.T) {
	a, b := rep("a", 64), rep("b", 64)
	l := []api.Part{summed(part(1, 64), a), summed(part(2, 64), b)}
	v, _ := parts.Join(l, picksOf(l...))
	if want := digest.Hex(digest.Tagged('M', a, b)); v.Sum != want || v.Sum == digest.Hex(digest.Tagged('M', a+b)) || v.Sum == digest.Hex(digest.Tagged('M', b, a)) {
		t.Errorf("the Sum of two: %s, not %s", v.Sum, want)
	}
	one, _ := parts.Join(l, picksOf(l[0]))
	if want := digest.Hex(digest.Tagged('M', a)); one.Sum != want {
		t.Errorf("the Sum of one: %s, not %s", one.Sum, want)
	}
	// Other numbers and other pieces with the same Sums have the same one.
	other := []api.Part{summed(part(3, 4096, 5), a), summed(part(9), b)}
	if w, e := parts.Join(other, picksOf(other...)); w.Sum != v.Sum || w.Size != 4101 || e != api.OK {
		t.Errorf("the same Sums: %s, %d, %v", w.Sum, w.Size, e)
	}
}

// Promise 14.2: picks that are none, or do not rise.
func TestJoinOrder(t *testing.T) {
	l := []api.Part{part(1, 64), part(2, 64), part(3, 64)}
	a, b, c := pickOf(l[0]), pickOf(l[1]), pickOf(l[2])
	for _, picks := range [][]api.Pick{
		nil, {}, {a, a}, {b, a}, {c, a}, {a, c, b}, {b, a, c}, {a, b, b}, {a, a, b}, {c, b, a}, {a, b, c, a}, {a, b, c, c},
		{{N: 5}, {N: 5}}, {{N: 5}, {N: 4}}, {{N: 0}, {N: -1}}, {a, {N: math.MinInt}}, {{N: math.MaxInt}, a}, {{N: math.MaxInt}, {N: math.MaxInt}}, {{N: math.MinInt}, {N: math.MinInt}},
	} {
		noJoin(t, fmt.Sprintf("Join of %v", picks), l, picks, api.ErrArg)
		noJoin(t, fmt.Sprintf("Join of %v, of nothing", picks), nil, picks, api.ErrArg)
	}
}

// Promise 14.2: picks that name a part that is not there, or has another Sum, at each place.
func TestJoinPart(t *testing.T) {
	l := []api.Part{part(10, 64), part(20, 64), part(30, 64)}
	for i, p := range l {
		for _, sum := range append([]string{digits(11), digits(10 * (i + 2)), rep("0", 62) + "0A", "a", rep(p.Sum, 2), p.Sum[:63], p.Sum + "0"}, notDigits()...) {
			if sum == p.Sum {
				continue
			}
			picks := picksOf(l...)
			picks[i].Sum = sum
			noJoin(t, fmt.Sprintf("another Sum %q at %d", sum, i), l, picks, api.ErrPart)
			noJoin(t, fmt.Sprintf("another Sum %q, alone", sum), l, picks[i:i+1], api.ErrPart)
		}
		for _, near := range []int{p.N - 1, p.N + 1} {
			picks := picksOf(l...)
			picks[i].N = near
			noJoin(t, fmt.Sprintf("%d in the place of %d", near, p.N), l, picks, api.ErrPart)
		}
	}
	for _, n := range []int{math.MinInt, -1, 0, 1, 9, 11, 15, 25, 31, 100, 101, math.MaxInt} {
		noJoin(t, fmt.Sprintf("%d alone", n), l, []api.Pick{{N: n, Sum: zeros()}}, api.ErrPart)
		noJoin(t, fmt.Sprintf("%d of nothing", n), nil, []api.Pick{{N: n, Sum: zeros()}}, api.ErrPart)
	}
	noJoin(t, "one behind all", l, append(picksOf(l...), api.Pick{N: 31, Sum: digits(30)}), api.ErrPart)
	noJoin(t, "one ahead of all", l, append([]api.Pick{{N: 9, Sum: digits(10)}}, picksOf(l...)...), api.ErrPart)
	noJoin(t, "one beyond all numbers", l, append(picksOf(l...), api.Pick{N: math.MaxInt, Sum: digits(30)}), api.ErrPart)
}

// Promise 14.2: parts of 63 and 64 bytes, at each place, in one piece and in several.
func TestJoinSmall(t *testing.T) {
	for many := 1; many <= 5; many++ {
		for at := range many {
			for _, sizes := range [][]int{nil, {1}, {62}, {63}, {64}, {65}, {62, 1}, {63, 1}, {32, 31}, {32, 32}, {1, 62, 1}} {
				var l []api.Part
				for i := range many {
					l = append(l, part(3*i+1, 64))
				}
				l[at] = part(l[at].N, sizes...)
				what := fmt.Sprintf("%v at %d of %d", sizes, at, many)
				if l[at].Size < 64 && at < many-1 {
					noJoin(t, what, l, picksOf(l...), api.ErrSmall)
				} else {
					joins(t, what, l, l)
				}
			}
		}
	}
	// One that is small is in nobody's way, if it is not picked, or is the last one of the picks.
	l := []api.Part{part(1, 64), part(2, 63), part(3, 64)}
	joins(t, "a small one that is not picked", l, []api.Part{l[0], l[2]})
	joins(t, "a small one as the last pick", l, l[:2])
	noJoin(t, "a small one ahead", l, picksOf(l[1], l[2]), api.ErrSmall)
}

// Promise 14.2: as many bytes and pieces as an object may have, and one more.
func TestJoinLong(t *testing.T) {
	big := of(1, many(256, 4096)) // all bytes of an object
	for _, c := range []struct {
		what string
		l    []api.Part
		fits bool
	}{
		{"all bytes in one", []api.Part{big}, true},
		{"all bytes in one, and none", []api.Part{big, part(2)}, true},
		{"all bytes in two", []api.Part{of(1, many(128, 4096)), of(2, many(128, 4096))}, true},
		{"all bytes but one", []api.Part{of(1, many(255, 4096)), part(2, 4095)}, true},
		{"all bytes, the last ones by themselves", []api.Part{of(1, many(255, 4096)), part(2, 4095, 1)}, true},
		{"a byte more, in one", []api.Part{of(1, append(many(256, 4096), pieces(1)...))}, false},
		{"a byte more, in two", []api.Part{big, part(2, 1)}, false},
		{"a byte more, in three", []api.Part{of(1, many(128, 4096)), of(2, many(128, 4096)), part(3, 1)}, false},
		{"twice as many bytes, in one", []api.Part{of(1, many(512, 4096))}, false},
		{"all pieces in one", []api.Part{of(1, many(512, 1))}, true},
		{"all pieces in one, and none", []api.Part{of(1, many(512, 1)), part(2)}, true},
		{"all pieces in two", []api.Part{of(1, many(511, 1)), part(2, 1)}, true},
		{"all pieces in many", []api.Part{of(1, many(128, 3)), of(2, many(128, 3)), of(3, many(128, 3)), of(4, many(128, 3))}, true},
		{"all pieces and all bytes", []api.Part{of(1, many(256, 2048)), of(2, many(256, 2048))}, true},
		{"all pieces and a byte more", []api.Part{of(1, many(256, 2048)), of(2, append(many(255, 2048), pieces(2049)...))}, false},
		{"a piece more, in two", []api.Part{of(1, many(512, 1)), part(2, 1)}, false},
		{"a piece more, in many", []api.Part{of(1, many(128, 3)), of(2, many(128, 3)), of(3, many(128, 3)), of(4, many(129, 3))}, false},
		{"a piece more, and all bytes", []api.Part{of(1, many(512, 2047)), part(2, 512)}, false},
	} {
		if c.fits {
			joins(t, c.what, c.l, c.l)
		} else {
			noJoin(t, c.what, c.l, picksOf(c.l...), api.ErrLong)
		}
	}
	// What is not picked does not count.
	l := []api.Part{of(1, many(512, 4096)), of(2, many(512, 1)), of(3, many(256, 4096))}
	joins(t, "one of three", l, l[1:2])
	joins(t, "another one of three", l, l[2:])
	var all []api.Part
	for n := 1; n <= 100; n++ {
		all = append(all, of(n, many(512, 4096)))
	}
	noJoin(t, "all that may be", all, picksOf(all...), api.ErrLong)
}

// Promise 14.2: where several errors apply, the first one of the chapter is told, at whatever places they stand.
func TestJoinWhichError(t *testing.T) {
	big, small := of(5, many(512, 4096)), part(3, 63)
	l := []api.Part{small, big, part(7, 63), of(9, many(512, 4096))}
	none, other := api.Pick{N: 8, Sum: zeros()}, api.Pick{N: 9, Sum: zeros()}
	a, b, c, d := pickOf(l[0]), pickOf(l[1]), pickOf(l[2]), pickOf(l[3])
	for _, x := range []struct {
		picks []api.Pick
		want  api.Errno
	}{
		{[]api.Pick{b, a}, api.ErrArg}, {[]api.Pick{none, a}, api.ErrArg}, {[]api.Pick{a, none, c}, api.ErrArg}, {[]api.Pick{other, b}, api.ErrArg}, {[]api.Pick{a, a}, api.ErrArg}, {[]api.Pick{b, b}, api.ErrArg}, {[]api.Pick{none, none}, api.ErrArg}, {[]api.Pick{{N: 1}, a, b, none, other, other}, api.ErrArg},
		{[]api.Pick{a, none}, api.ErrPart}, {[]api.Pick{a, b, none}, api.ErrPart}, {[]api.Pick{a, b, other}, api.ErrPart}, {[]api.Pick{b, none}, api.ErrPart}, {[]api.Pick{b, other}, api.ErrPart}, {[]api.Pick{{N: 1}, a, b}, api.ErrPart}, {[]api.Pick{a, c, {N: 200}}, api.ErrPart},
		{[]api.Pick{a, b}, api.ErrSmall}, {[]api.Pick{b, c, d}, api.ErrSmall}, {[]api.Pick{a, d}, api.ErrSmall}, {[]api.Pick{a, b, c, d}, api.ErrSmall},
		{[]api.Pick{b, c}, api.ErrLong}, {[]api.Pick{b, d}, api.ErrLong}, {[]api.Pick{b}, api.ErrLong},
		{[]api.Pick{a}, api.OK}, {[]api.Pick{c}, api.OK},
	} {
		if _, e := parts.Join(l, x.picks); e != x.want {
			t.Errorf("Join of %.300v: %v, not %v", fmt.Sprint(x.picks), e, x.want)
		}
	}
}

// said is what Join should answer, by the words of the chapter.
func said(l []api.Part, picks []api.Pick) (api.Version, api.Errno) {
	if len(picks) == 0 {
		return api.Version{}, api.ErrArg
	}
	for i := range picks[1:] {
		if picks[i+1].N <= picks[i].N {
			return api.Version{}, api.ErrArg
		}
	}
	var chosen []api.Part
	for _, k := range picks {
		for _, p := range l {
			if p.N == k.N && p.Sum == k.Sum {
				chosen = append(chosen, p)
			}
		}
	}
	if len(chosen) < len(picks) {
		return api.Version{}, api.ErrPart
	}
	for i := range chosen[1:] {
		if chosen[i].Size < 64 {
			return api.Version{}, api.ErrSmall
		}
	}
	v := joined(chosen...)
	if v.Size > 1048576 || len(v.Pieces) > 512 {
		return api.Version{}, api.ErrLong
	}
	return v, api.OK
}

// Promise 14.2: drawn parts and picks, held against the words.
func TestJoinAny(t *testing.T) {
	met := map[api.Errno]int{}
	for seed := range 3000 {
		r := rand.New(rand.NewSource(int64(seed)))
		var l []api.Part
		for n := 1; n <= 8; n++ {
			switch r.Intn(12) {
			case 0:
			case 1, 2, 3:
				l = append(l, of(n, many(64+r.Intn(300), 1+r.Intn(4096))))
			case 4:
				l = append(l, part(n, 62+r.Intn(4)))
			default:
				l = append(l, part(n, 64+r.Intn(4000), 1+r.Intn(9)))
			}
		}
		var picks []api.Pick
		for n := range 10 {
			switch k := r.Intn(40); {
			case k == 0:
				picks = append(picks, api.Pick{N: n, Sum: digits(77)})
			case k == 1:
				picks = append(picks, api.Pick{N: r.Intn(10), Sum: digits(n)})
			case k < 20 && n > 0 && slices.ContainsFunc(l, func(p api.Part) bool { return p.N == n }):
				picks = append(picks, api.Pick{N: n, Sum: digits(n)})
			}
		}
		v, e := parts.Join(l, picks)
		want, fails := said(l, picks)
		if e != fails || !sameVersion(v, want) {
			t.Fatalf("seed %d: %v, not %v, %d bytes", seed, e, fails, v.Size)
		}
		met[e]++
	}
	for _, e := range []api.Errno{api.OK, api.ErrArg, api.ErrPart, api.ErrSmall, api.ErrLong} {
		if met[e] < 50 {
			t.Errorf("too little happened: %v met %d times", e, met[e])
		}
	}
}

// Promise 14.4: what is joined has just the bytes of its parts, in the order of their numbers, in whatever order they came.
func TestJoinBytes(t *testing.T) {
	for seed := range 20 {
		r := rand.New(rand.NewSource(int64(seed)))
		kept := map[string]string{}
		bytes := map[int]string{}
		var l []api.Part
		for range 15 {
			n := 1 + r.Intn(8)
			b := make([]byte, 64+r.Intn(9000))
			r.Read(b)
			p := api.Part{N: n, Size: len(b), Sum: digest.Hex(digest.Sum(string(b)))}
			for _, x := range extent.Cut(string(b)) {
				kept[extent.ID(x)] = x
				p.Pieces = append(p.Pieces, api.Piece{ID: extent.ID(x), Size: len(x)})
			}
			var e api.Errno
			if l, e = parts.Put(l, p); e != api.OK {
				t.Fatalf("Put: %v", e)
			}
			bytes[n] = string(b)
		}
		v, e := parts.Join(l, picksOf(l...))
		var got, want strings.Builder
		for _, p := range v.Pieces {
			if got.WriteString(kept[p.ID]); len(kept[p.ID]) != p.Size {
				t.Errorf("a piece of %d bytes, not %d", len(kept[p.ID]), p.Size)
			}
		}
		for n := range 9 {
			want.WriteString(bytes[n])
		}
		if e != api.OK || got.String() != want.String() || v.Size != want.Len() {
			t.Errorf("seed %d: %v, %d bytes, not %d", seed, e, got.Len(), want.Len())
		}
	}
}
