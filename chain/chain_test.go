package chain_test

import (
	"fmt"
	"math"
	"slices"
	"testing"

	"stowage/api"
	"stowage/chain"
)

// The example of the chapter.
func TestExample(t *testing.T) {
	l := put(t, object(3, 4096, 1), mark(5))
	v, e := chain.Latest(l)
	isVersion(t, "Latest", v, e, api.Version{}, api.ErrMark)
	v, e = chain.Find(l, 3)
	isVersion(t, "Find 3", v, e, object(3, 4096, 1), api.OK)
	l, e = chain.Drop(l, 5)
	isChain(t, "Drop 5", l, e, object(3, 4096, 1))
	v, e = chain.Latest(l)
	isVersion(t, "Latest again", v, e, object(3, 4096, 1), api.OK)
}

// Promise 13.1: pieces that may be, from both sides of each bound; they may be more than an object has.
func TestPieces(t *testing.T) {
	for _, c := range []struct {
		l    []api.Piece
		want int
	}{
		{nil, 0}, {[]api.Piece{}, 0}, {pieces(1), 1}, {pieces(2), 2}, {pieces(4095), 4095}, {pieces(4096), 4096}, {pieces(4096, 1), 4097}, {pieces(1, 4096, 3), 4100},
		{many(511, 1), 511}, {many(512, 1), 512}, {many(256, 4096), api.MaxObject}, {many(257, 4096), api.MaxObject + 4096}, {many(512, 4096), 2 * api.MaxObject},
		{[]api.Piece{{ID: zeros(), Size: 3}, {ID: zeros(), Size: 4}}, 7},
	} {
		if size, e := chain.Pieces(c.l); size != c.want || e != api.OK {
			t.Errorf("Pieces of %d, %d bytes: %d, %v", len(c.l), c.want, size, e)
		}
	}
	for _, l := range badPieces() {
		if size, e := chain.Pieces(l); size != 0 || e != api.ErrArg {
			t.Errorf("Pieces of %d (%.200v): %d, %v", len(l), fmt.Sprint(l), size, e)
		}
	}
}

// Promise 13.1: each byte in an id and in a Sum.
func TestDigits(t *testing.T) {
	for c := range 256 {
		for _, at := range []int{0, 31, 63} {
			b := []byte(zeros())
			b[at] = byte(c)
			want := api.ErrArg
			if c >= '0' && c <= '9' || c >= 'a' && c <= 'f' {
				want = api.OK
			}
			if _, e := chain.Pieces([]api.Piece{{ID: string(b), Size: 1}}); e != want {
				t.Errorf("Pieces with the id %q: %v", b, e)
			}
			if e := chain.Check(with(object(3, 5), func(v *api.Version) { v.Sum = string(b) })); e != want {
				t.Errorf("Check with the Sum %q: %v", b, e)
			}
		}
	}
}

// Promise 13.1: versions that may be, and ones that may not.
func TestCheck(t *testing.T) {
	for _, v := range good() {
		if e := chain.Check(v); e != api.OK {
			t.Errorf("Check of %s: %v", short([]api.Version{v}), e)
		}
	}
	for _, v := range badVersions() {
		if e := chain.Check(v); e != api.ErrArg {
			t.Errorf("Check of %s: %v", short([]api.Version{v}), e)
		}
	}
}

// Promise 13.1: a version that may be comes ahead of all; into an empty chain any of them.
func TestPut(t *testing.T) {
	for _, v := range good() {
		for _, empty := range [][]api.Version{nil, {}} {
			l, e := chain.Put(empty, v)
			isChain(t, "Put into nothing", l, e, v)
		}
	}
	for _, c := range chains() {
		for _, v := range []api.Version{mark(api.MaxTerm), object(api.MaxTerm, 7), object(40), mark(33), object(10, 4096, 4096)} {
			l, e := chain.Put(c, v)
			what := fmt.Sprintf("Put of %d into %s", v.ID, short(c))
			switch {
			case len(c) > 0 && v.ID <= c[0].ID:
				noChain(t, what, l, e, api.ErrArg)
			case len(c) == 32:
				noChain(t, what, l, e, api.ErrMany)
			default:
				isChain(t, what, l, e, append([]api.Version{v}, c...)...)
			}
		}
	}
}

// Promise 13.1: an ID that is not above all: below all, between, the same as the first, a middle and the last one.
func TestPutOrder(t *testing.T) {
	c := []api.Version{object(9, 5), mark(6), object(3, 1, 2)}
	for id := 1; id < 13; id++ {
		for _, v := range []api.Version{mark(id), object(id, 4)} {
			l, e := chain.Put(c, v)
			if id > 9 {
				isChain(t, "Put of a newer one", l, e, append([]api.Version{v}, c...)...)
			} else {
				noChain(t, fmt.Sprintf("Put of %d", id), l, e, api.ErrArg)
			}
		}
	}
	l, e := chain.Put(c, c[0])
	noChain(t, "Put of the first one again", l, e, api.ErrArg)
	l, e = chain.Put([]api.Version{mark(api.MaxTerm)}, mark(api.MaxTerm))
	noChain(t, "Put above the greatest one", l, e, api.ErrArg)
	l, e = chain.Put([]api.Version{mark(api.MaxTerm)}, mark(api.MaxTerm+1))
	noChain(t, "Put beyond the greatest one", l, e, api.ErrArg)
}

// Promise 13.1: a full chain, and what is told ahead of that it is full.
func TestPutFull(t *testing.T) {
	l, e := chain.Put(marks(31, 1), object(32, 5))
	isChain(t, "Put of the 32nd", l, e, append([]api.Version{object(32, 5)}, marks(31, 1)...)...)
	for _, v := range []api.Version{mark(33), object(33, 5), mark(api.MaxTerm)} {
		got, e := chain.Put(l, v)
		noChain(t, "Put of the 33rd", got, e, api.ErrMany)
	}
	for _, v := range []api.Version{mark(32), mark(31), mark(1), object(32, 5)} {
		got, e := chain.Put(l, v)
		noChain(t, "Put of an older one into a full chain", got, e, api.ErrArg)
	}
	for _, v := range badVersions() {
		got, e := chain.Put(l, v)
		noChain(t, "Put of a wrong one into a full chain", got, e, api.ErrArg)
	}
	l, e = chain.Drop(l, 7)
	if e != api.OK {
		t.Fatalf("Drop: %v", e)
	}
	got, e := chain.Put(l, mark(33))
	isChain(t, "Put where one went", got, e, append([]api.Version{mark(33)}, l...)...)
}

// Promise 13.1: a version that may not be, into chains of all kinds.
func TestPutWrong(t *testing.T) {
	for _, c := range [][]api.Version{nil, {mark(1)}, {object(2, 5), mark(1)}} {
		for _, v := range badVersions() {
			l, e := chain.Put(c, v)
			noChain(t, "Put of "+short([]api.Version{v}), l, e, api.ErrArg)
		}
	}
}

// Promise 13.1: each version of each chain goes, and nothing else does; one that is not there does not.
func TestDrop(t *testing.T) {
	for _, c := range chains() {
		for i, v := range c {
			l, e := chain.Drop(c, v.ID)
			isChain(t, fmt.Sprintf("Drop of %d of %s", v.ID, short(c)), l, e, slices.Delete(slices.Clone(c), i, i+1)...)
		}
		for _, id := range []int{0, -1, 7, 100, math.MinInt, math.MaxInt, api.MaxTerm + 1} {
			if slices.ContainsFunc(c, func(v api.Version) bool { return v.ID == id }) {
				continue
			}
			l, e := chain.Drop(c, id)
			noChain(t, fmt.Sprintf("Drop of %d of %s", id, short(c)), l, e, api.ErrNone)
		}
	}
}

// Promise 13.1: the first one, a middle one and the last one of three, and all of them.
func TestDropOrder(t *testing.T) {
	a, b, c := object(9, 5), mark(6), object(3, 1, 2)
	all := []api.Version{a, b, c}
	l, e := chain.Drop(all, 9)
	isChain(t, "Drop of the first one", l, e, b, c)
	l, e = chain.Drop(all, 6)
	isChain(t, "Drop of the middle one", l, e, a, c)
	l, e = chain.Drop(all, 3)
	isChain(t, "Drop of the last one", l, e, a, b)
	l, _ = chain.Drop(l, 9)
	l, e = chain.Drop(l, 6)
	isChain(t, "Drop of all", l, e)
	l, e = chain.Drop(l, 6)
	noChain(t, "Drop of an empty chain", l, e, api.ErrNone)
}

// Promise 13.1: the first one, if there is one and it is no marker.
func TestLatest(t *testing.T) {
	for _, c := range chains() {
		v, e := chain.Latest(c)
		switch {
		case len(c) == 0:
			isVersion(t, "Latest of nothing", v, e, api.Version{}, api.ErrNone)
		case c[0].Mark:
			isVersion(t, "Latest of "+short(c), v, e, api.Version{}, api.ErrMark)
		default:
			isVersion(t, "Latest of "+short(c), v, e, c[0], api.OK)
		}
	}
	v, e := chain.Latest([]api.Version{object(5, 9), mark(4)})
	isVersion(t, "Latest ahead of a marker", v, e, object(5, 9), api.OK)
}

// Promise 13.1: each version of each chain, markers too; ones that are not there.
func TestFind(t *testing.T) {
	for _, c := range chains() {
		for _, want := range c {
			v, e := chain.Find(c, want.ID)
			isVersion(t, fmt.Sprintf("Find of %d in %s", want.ID, short(c)), v, e, want, api.OK)
		}
		for _, id := range []int{0, -1, 7, 100, math.MinInt, math.MaxInt, api.MaxTerm + 1} {
			if slices.ContainsFunc(c, func(v api.Version) bool { return v.ID == id }) {
				continue
			}
			v, e := chain.Find(c, id)
			isVersion(t, fmt.Sprintf("Find of %d in %s", id, short(c)), v, e, api.Version{}, api.ErrNone)
		}
	}
	v, e := chain.Find([]api.Version{object(9, 5), mark(6), object(3, 1)}, 6)
	isVersion(t, "Find of a marker", v, e, mark(6), api.OK)
}

// Promise 13.1: ids in their order, of all versions, each as often as it stands there.
func TestIds(t *testing.T) {
	a, b, c := digits(0xa), digits(0xb), digits(0xc)
	first := of(9, []api.Piece{{ID: c, Size: 1}, {ID: a, Size: 2}, {ID: c, Size: 1}})
	last := of(3, []api.Piece{{ID: b, Size: 9}, {ID: a, Size: 2}})
	for _, x := range []struct {
		l    []api.Version
		want []string
	}{
		{nil, nil}, {[]api.Version{mark(3)}, nil}, {[]api.Version{object(3)}, nil},
		{[]api.Version{first}, []string{c, a, c}}, {[]api.Version{last}, []string{b, a}},
		{[]api.Version{first, last}, []string{c, a, c, b, a}},
		{[]api.Version{first, mark(7), object(5), last, mark(1)}, []string{c, a, c, b, a}},
	} {
		if got := chain.Ids(x.l); !slices.Equal(got, x.want) {
			t.Errorf("Ids of %s: %q", short(x.l), got)
		}
	}
	if got := chain.Ids([]api.Version{of(2, many(512, 1)), of(1, many(512, 2))}); len(got) != 1024 || got[0] != digits(1) || got[1023] != digits(511002) {
		t.Errorf("Ids of many: %d", len(got))
	}
}

// Promise 13.1: a list that is no chain is told at each call, ahead of all else.
func TestNoChain(t *testing.T) {
	for _, c := range badChains() {
		what := " of " + short(c)
		for _, v := range append([]api.Version{mark(api.MaxTerm), mark(40), object(2000, 5), {}}, c...) {
			l, e := chain.Put(c, v)
			noChain(t, "Put"+what, l, e, api.ErrArg)
		}
		for _, id := range []int{0, 1, 3, 5, 9, 999, c[0].ID, c[len(c)-1].ID} {
			l, e := chain.Drop(c, id)
			noChain(t, "Drop"+what, l, e, api.ErrArg)
			v, e := chain.Find(c, id)
			isVersion(t, "Find"+what, v, e, api.Version{}, api.ErrArg)
		}
		v, e := chain.Latest(c)
		isVersion(t, "Latest"+what, v, e, api.Version{}, api.ErrArg)
		if ids := chain.Ids(c); len(ids) != 0 {
			t.Errorf("Ids%s: %d", what, len(ids))
		}
		if s, e := chain.Encode(c); s != "" || e != api.ErrArg {
			t.Errorf("Encode%s: %q, %v", what, s, e)
		}
	}
}
