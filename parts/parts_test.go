package parts_test

import (
	"fmt"
	"math/rand"
	"slices"
	"testing"

	"stowage/api"
	"stowage/parts"
)

// The example of the chapter.
func TestExample(t *testing.T) {
	l := put(t, part(2, 70), part(1, 64), part(3, 1))
	v, e := parts.Join(l, picksOf(l[0], l[1], l[2]))
	if e != api.OK || v.Size != 135 {
		t.Errorf("Join of 1, 2, 3: %d, %v", v.Size, e)
	}
	noJoin(t, "Join of 3, 1", l, picksOf(l[2], l[0]), api.ErrArg)
	noJoin(t, "Join of 3, then 4", l, picksOf(l[2], part(4)), api.ErrPart)
}

// Promise 14.1: parts that may be, and ones that may not, from both sides of each bound.
func TestCheck(t *testing.T) {
	for _, p := range good() {
		if e := parts.Check(p); e != api.OK {
			t.Errorf("Check of %s: %v", short([]api.Part{p}), e)
		}
	}
	for _, p := range bad() {
		if e := parts.Check(p); e != api.ErrArg {
			t.Errorf("Check of %s: %v", short([]api.Part{p}), e)
		}
	}
	for n := -3; n < 110; n++ {
		want := api.ErrArg
		if n >= 1 && n <= 100 {
			want = api.OK
		}
		if e := parts.Check(summed(part(n, 5), zeros())); e != want {
			t.Errorf("Check of the number %d: %v", n, e)
		}
	}
}

// Promise 14.1: each byte in a Sum.
func TestSumDigits(t *testing.T) {
	for c := range 256 {
		for _, at := range []int{0, 31, 63} {
			b := []byte(zeros())
			b[at] = byte(c)
			want := api.ErrArg
			if c >= '0' && c <= '9' || c >= 'a' && c <= 'f' {
				want = api.OK
			}
			if e := parts.Check(summed(part(3, 5), string(b))); e != want {
				t.Errorf("Check with the Sum %q: %v", b, e)
			}
		}
	}
}

// Promise 14.1: a part of each number, into lists of all kinds: in the place of the one of its number, or among them.
func TestPut(t *testing.T) {
	for _, c := range lists() {
		for n := 1; n <= 100; n++ {
			p := summed(part(n, 9, 9), digits(77))
			want := []api.Part{}
			for _, x := range c {
				if x.N < n {
					want = append(want, x)
				}
			}
			want = append(want, p)
			for _, x := range c {
				if x.N > n {
					want = append(want, x)
				}
			}
			l, e := parts.Put(c, p)
			areParts(t, fmt.Sprintf("Put of %d into %s", n, short(c)), l, e, want...)
		}
	}
	for _, p := range good() {
		for _, empty := range [][]api.Part{nil, {}} {
			l, e := parts.Put(empty, p)
			areParts(t, "Put into nothing", l, e, p)
		}
	}
}

// orders are all orders of some parts.
func orders(l []api.Part) [][]api.Part {
	if len(l) == 0 {
		return [][]api.Part{nil}
	}
	var all [][]api.Part
	for i := range l {
		rest := slices.Delete(slices.Clone(l), i, i+1)
		for _, o := range orders(rest) {
			all = append(all, append([]api.Part{l[i]}, o...))
		}
	}
	return all
}

// Promise 14.1: in whatever order parts are put, they stand by their numbers.
func TestPutOrders(t *testing.T) {
	l := []api.Part{part(1, 64), part(2, 70), part(50), part(99, 4096, 1), part(100, 1)}
	for _, o := range orders(l) {
		areParts(t, "Put in any order", put(t, o...), api.OK, l...)
	}
}

// Promise 14.4: a part that is put again is the last one that was put, wherever it stands.
func TestPutAgain(t *testing.T) {
	l := []api.Part{part(1, 64), part(50, 70), part(100, 1)}
	for i, p := range l {
		for _, again := range []api.Part{part(p.N), summed(p, digits(9)), part(p.N, 4096, 4096), summed(part(p.N, 3), digits(8)), p} {
			got, e := parts.Put(l, again)
			want := slices.Clone(l)
			want[i] = again
			areParts(t, "Put again", got, e, want...)
			got, e = parts.Put(got, p)
			areParts(t, "Put as it was", got, e, l...)
		}
	}
}

// Promise 14.1: a part that may not be, into lists of all kinds.
func TestPutWrong(t *testing.T) {
	for _, c := range [][]api.Part{nil, {part(1)}, {part(3, 5)}, {part(2, 5), part(4, 1)}, all100()} {
		for _, p := range bad() {
			l, e := parts.Put(c, p)
			noParts(t, "Put of "+short([]api.Part{p}), l, e, api.ErrArg)
		}
	}
}

// Promise 14.3: ids in their order, of all parts, each as often as it stands there.
func TestIds(t *testing.T) {
	a, b, c := digits(0xa), digits(0xb), digits(0xc)
	first := of(3, []api.Piece{{ID: c, Size: 1}, {ID: a, Size: 2}, {ID: c, Size: 1}})
	last := of(9, []api.Piece{{ID: b, Size: 9}, {ID: a, Size: 2}})
	for _, x := range []struct {
		l    []api.Part
		want []string
	}{
		{nil, nil}, {[]api.Part{part(3)}, nil}, {[]api.Part{first}, []string{c, a, c}}, {[]api.Part{last}, []string{b, a}},
		{[]api.Part{first, last}, []string{c, a, c, b, a}}, {[]api.Part{part(1), first, part(5), last, part(100)}, []string{c, a, c, b, a}},
	} {
		if got := parts.Ids(x.l); !slices.Equal(got, x.want) {
			t.Errorf("Ids of %s: %q", short(x.l), got)
		}
	}
}

// Promises 14.1 to 14.3: a list that is no parts is told at each call, ahead of all else.
func TestNoParts(t *testing.T) {
	for _, c := range badLists() {
		what := " of " + short(c)
		for _, p := range append([]api.Part{part(1), part(3, 5), part(100, 7), {}}, c[0]) {
			l, e := parts.Put(c, p)
			noParts(t, "Put"+what, l, e, api.ErrArg)
		}
		for _, picks := range [][]api.Pick{nil, picksOf(c...), picksOf(c[0]), picksOf(c[len(c)-1]), {{N: 55, Sum: zeros()}}} {
			noJoin(t, "Join"+what, c, picks, api.ErrArg)
		}
		if ids := parts.Ids(c); len(ids) != 0 {
			t.Errorf("Ids%s: %d", what, len(ids))
		}
		if s, e := parts.Encode(c); s != "" || e != api.ErrArg {
			t.Errorf("Encode%s: %q, %v", what, s, e)
		}
	}
}

// Promises 14.1 and 14.4: drawn orders of parts, put and put again, held against the last one of each number.
func TestPutAny(t *testing.T) {
	replaced := 0
	for seed := range 40 {
		r := rand.New(rand.NewSource(int64(seed)))
		var l []api.Part
		var last [101]*api.Part
		top := 1 + r.Intn(100)
		for range 80 {
			var sizes []int
			for range r.Intn(4) {
				sizes = append(sizes, 1+r.Intn(4096))
			}
			p := summed(part(1+r.Intn(top), sizes...), digits(r.Int()))
			got, e := parts.Put(l, p)
			if last[p.N] != nil {
				replaced++
			}
			l, last[p.N] = got, &p
			var want []api.Part
			for _, p := range last {
				if p != nil {
					want = append(want, *p)
				}
			}
			areParts(t, fmt.Sprintf("seed %d", seed), l, e, want...)
		}
	}
	if replaced < 500 {
		t.Errorf("too little happened: %d replaced", replaced)
	}
}
