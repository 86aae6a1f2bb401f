package meta_test

import (
	"fmt"
	"math"
	"slices"
	"testing"

	"stowage/api"
	"stowage/digest"
	"stowage/meta"
)

// The example of the chapter.
func TestExample(t *testing.T) {
	m := meta.New()
	does(t, m, makes("one"), api.Out{})
	does(t, m, puts("one", "k", 7, pieces(5)...), api.Out{ID: 2, Sum: digits(7)})
	does(t, m, marks("one", "k"), api.Out{ID: 3})
	isVersion(t, m, "one", "k", 0, api.Version{}, api.ErrMark)
	isVersion(t, m, "one", "k", 2, object(2, 7, pieces(5)...), api.OK)
	fails(t, m, drops("one"), api.ErrFilled)
}

// Promise 17.1: a new machine has nothing; so has one that no call made.
func TestNew(t *testing.T) {
	for _, m := range []*meta.Machine{meta.New(), {}} {
		if m.Index() != 0 || len(m.Buckets()) != 0 || len(m.Tokens()) != 0 || len(m.Refs()) != 0 {
			t.Errorf("a new machine: %d, %v, %v, %v", m.Index(), m.Buckets(), m.Tokens(), m.Refs())
		}
		if m.Save() != "\x00\x01\x00\x00" {
			t.Errorf("Save: %q", m.Save())
		}
		noKey(t, m, "one", "k", api.ErrNone)
		does(t, m, makes("one"), api.Out{})
		same(t, "Buckets", m.Buckets(), []string{"one"})
	}
	if a, b := meta.New(), meta.New(); a == b || a.Apply(1, makes("one")).Code != 0 || b.Index() != 0 {
		t.Errorf("two machines are one")
	}
}

// Promise 17.1: an index that is below, the same as and just above the machine's, far above it, at api.MaxTerm and one more.
func TestIndex(t *testing.T) {
	m := meta.New()
	refuses := func(index int) {
		t.Helper()
		before := m.Save()
		for _, c := range []api.Cmd{makes("fresh"), puts("one", "k", 1), expires(1 << 40), with("t", makes("fresh")), {}, {Kind: 99}} {
			if o := m.Apply(index, c); o != failed(api.ErrArg) || m.Save() != before {
				t.Errorf("at %d behind %d, %s: %v", index, m.Index(), short(c), o)
			}
		}
	}
	takes := func(index int, c api.Cmd, want api.Out) {
		t.Helper()
		if o := m.Apply(index, c); o != want || m.Index() != index {
			t.Errorf("at %d, %s: %v, not %v; the index is %d", index, short(c), o, want, m.Index())
		}
	}
	for _, index := range []int{0, -1, math.MinInt, 1<<40 + 1, 1 << 41, math.MaxInt} {
		refuses(index)
	}
	takes(1, with("kept", makes("one")), api.Out{})
	for _, index := range []int{1, 0, -1, 1<<40 + 1} {
		refuses(index)
	}
	takes(2, puts("one", "k", 1), api.Out{ID: 2, Sum: digits(1)})
	takes(9, puts("one", "k", 2), api.Out{ID: 9, Sum: digits(2)})
	for _, index := range []int{9, 8, 3, 2, 1, 0} {
		refuses(index)
	}
	takes(10, marks("one", "k"), api.Out{ID: 10})
	takes(1<<40-1, begins("one", "k"), api.Out{ID: 1<<40 - 1})
	refuses(1<<40 + 1)
	takes(1<<40, puts("one", "k", 3), api.Out{ID: 1 << 40, Sum: digits(3)})
	for _, index := range []int{1 << 40, 1<<40 + 1, 1<<40 - 1, 0, -1, math.MaxInt} {
		refuses(index)
	}
	isChain(t, m, "one", "k", object(1<<40, 3), marker(10), object(9, 2), object(2, 1))
	isUploads(t, m, "one", api.Upload{ID: 1<<40 - 1, Key: "k"})
}

// wrongCommands are commands that may not be, of each kind.
func wrongCommands() []api.Cmd {
	l := []api.Cmd{{}, {Kind: -1}, {Kind: 11, Bucket: "one"}, {Kind: math.MinInt}, {Kind: math.MaxInt, Bucket: "one", Key: "k"}}
	l = append(l, makes(""), makes("ab"), makes("One"), makes(rep("b", 64)), drops("a..b"), drops("_nodes"))
	l = append(l, puts("one", "", 1), puts("one", "k\x00", 1), puts("one", rep("k", 1025), 1), puts("one", "k", 1, many(513, 1)...), puts("one", "k", 1, many(257, 4096)...), puts("one", "k", 1, pieces(0)...), puts("one", "k", 1, pieces(4097)...), puts("one", "k", 1, api.Piece{ID: "x", Size: 1}))
	l = append(l, marks("", "k"), marks("one", ""), erases("one", "k", 0), erases("one", "k", -2), erases("one", "k", 1<<40+1), begins("one", ""), begins("no", "k"))
	l = append(l, brings("one", "u", 0, 1, 1), brings("one", "u", 5, 0, 1), brings("one", "u", 5, 101, 1), brings("one", "u", 5, 1, 1, many(257, 4096)...))
	l = append(l, joins("one", "u", 0, pick(1, 1)), joins("one", "u", 5, pick(101, 1)), joins("one", "u", 5, pick(-1, 1)), joins("one", "u", 5, slices.Repeat([]api.Pick{pick(1, 1)}, 101)...), joins("one", "u", 5, api.Pick{N: 1}), stops("one", "u", 0), stops("one", "", 5))
	l = append(l, expires(-1), expires(1<<40+1), with("t", expires(1)))
	for _, name := range []string{" ", "a b", "\x7f", rep("t", 65)} {
		l = append(l, with(name, makes("fresh")), with(name, puts("one", "k", 1)))
	}
	sum := puts("one", "k", 1)
	sum.Sum = rep("F", 64)
	key, number, extra := makes("fresh"), marks("one", "k"), drops("one")
	key.Key, number.ID, extra.Picks = "k", 2, []api.Pick{pick(1, 1)}
	return append(l, sum, key, number, extra)
}

// Promise 17.1: a command that may not be, at an index that may be and at one that may not; with a token that would be fresh, known, or clash.
func TestWrongCommands(t *testing.T) {
	m := driven(t, makes("one"), puts("one", "k", 1), begins("one", "u"), with("known", makes("two")), begins("one", "u"))
	for _, c := range wrongCommands() {
		fails(t, m, c, api.ErrArg)
		for _, name := range []string{"known", "fresh"} {
			if c.Token != "" {
				continue // with another token it may be
			}
			before := saidBy(t, m)
			before.index++
			if o := m.Apply(m.Index()+1, with(name, c)); o != failed(api.ErrArg) || m.Save() != before.text() {
				t.Errorf("with the token %s, %s: %v", name, short(c), o)
			}
		}
		before := m.Save()
		for _, index := range []int{m.Index(), 0, -1, 1<<40 + 1} {
			if o := m.Apply(index, c); o != failed(api.ErrArg) || m.Save() != before {
				t.Errorf("at %d, %s: %v", index, short(c), o)
			}
		}
		if t.Failed() {
			return
		}
	}
}

// Promise 17.1: CmdMake and CmdDrop, and how many buckets there may be.
func TestBuckets(t *testing.T) {
	m := meta.New()
	fails(t, m, drops("one"), api.ErrNone)
	var names []string
	for _, i := range []int{20, 3, 31, 0, 7, 8, 9, 30, 1, 2, 4, 5, 6, 10, 11, 12, 13, 14, 15, 16, 17, 18, 19, 21, 22, 23, 24, 25, 26, 27, 28, 29} {
		name := fmt.Sprintf("b%02d", i)
		does(t, m, makes(name), api.Out{})
		fails(t, m, makes(name), api.ErrThere)
		names = append(names, name)
		slices.Sort(names)
		same(t, "Buckets", m.Buckets(), names)
	}
	// Both errors at once: that it is there counts.
	fails(t, m, makes("b03"), api.ErrThere)
	fails(t, m, makes("b99"), api.ErrMany)
	fails(t, m, makes("aaa"), api.ErrMany)
	fails(t, m, drops("b99"), api.ErrNone)
	does(t, m, drops("b07"), api.Out{})
	fails(t, m, drops("b07"), api.ErrNone)
	noKey(t, m, "b07", "k", api.ErrNone)
	does(t, m, makes("b99"), api.Out{})
	fails(t, m, makes("b07"), api.ErrMany)
	same(t, "Buckets", m.Buckets(), append(slices.DeleteFunc(names, func(s string) bool { return s == "b07" }), "b99"))
}

// Promise 17.1: a bucket goes only when it has neither keys nor uploads; one that is made again is empty.
func TestDrop(t *testing.T) {
	m := driven(t, makes("one"), makes("two"), puts("one", "k", 1, pieces(3)...))
	fails(t, m, drops("one"), api.ErrFilled)
	does(t, m, marks("one", "k"), api.Out{ID: 5})
	fails(t, m, drops("one"), api.ErrFilled) // a key that lists no more
	does(t, m, erases("one", "k", 3), api.Out{ID: 3})
	fails(t, m, drops("one"), api.ErrFilled) // a marker alone
	does(t, m, begins("one", "u"), api.Out{ID: 9})
	fails(t, m, drops("one"), api.ErrFilled) // both
	does(t, m, erases("one", "k", 5), api.Out{ID: 5})
	fails(t, m, drops("one"), api.ErrFilled) // an upload alone
	does(t, m, stops("one", "u", 9), api.Out{ID: 9})
	does(t, m, drops("one"), api.Out{})
	same(t, "Buckets", m.Buckets(), []string{"two"})
	does(t, m, makes("one"), api.Out{})
	isKeys(t, m, "one")
	isUploads(t, m, "one")
	noKey(t, m, "one", "k", api.ErrKey)
}

// Promise 17.1: CmdPut and CmdMark, of a key and of several, in two buckets.
func TestPut(t *testing.T) {
	m := driven(t, makes("one"), makes("two"))
	does(t, m, puts("one", "k", 1, pieces(5, 6)...), api.Out{ID: 3, Sum: digits(1)})
	does(t, m, puts("one", "a", 2), api.Out{ID: 4, Sum: digits(2)})
	does(t, m, puts("two", "k", 3, many(256, 4096)...), api.Out{ID: 5, Sum: digits(3)})
	does(t, m, marks("two", "k"), api.Out{ID: 6})
	does(t, m, puts("one", "k", 1, pieces(5, 6)...), api.Out{ID: 7, Sum: digits(1)})
	does(t, m, marks("one", "new"), api.Out{ID: 8}) // a marker of a key that was not there
	does(t, m, marks("one", "new"), api.Out{ID: 9})
	does(t, m, puts("two", "k", 4, many(512, 1)...), api.Out{ID: 10, Sum: digits(4)})
	isChain(t, m, "one", "k", object(7, 1, pieces(5, 6)...), object(3, 1, pieces(5, 6)...))
	isChain(t, m, "one", "a", object(4, 2))
	isChain(t, m, "one", "new", marker(9), marker(8))
	isChain(t, m, "two", "k", object(10, 4, many(512, 1)...), marker(6), object(5, 3, many(256, 4096)...))
	isKeys(t, m, "one", "a", "k")
	isKeys(t, m, "two", "k")
	noKey(t, m, "two", "a", api.ErrKey)
	for _, c := range []api.Cmd{puts("not", "k", 1), marks("not", "k")} {
		fails(t, m, c, api.ErrNone)
	}
}

// filled are commands that fill a bucket with n keys.
func filled(bucket string, n int) []api.Cmd {
	l := []api.Cmd{makes(bucket)}
	for i := range n {
		key := fmt.Sprintf("k%03d", i*7%n) // in no order
		if i%3 == 0 {
			l = append(l, marks(bucket, key))
		} else {
			l = append(l, puts(bucket, key, i, pieces(1+i)...))
		}
	}
	return l
}

// Promise 17.1: how many keys a bucket may have, from both sides; a key that is there takes more versions.
func TestKeys(t *testing.T) {
	m := driven(t, filled("one", 256)...)
	run(t, m, makes("two"))
	for _, c := range []api.Cmd{puts("one", "new", 1), marks("one", "new"), puts("one", "k", 1), puts("one", "z", 1)} {
		fails(t, m, c, api.ErrMany)
		noKey(t, m, "one", c.Key, api.ErrKey)
	}
	does(t, m, puts("one", "k000", 5), api.Out{ID: m.Index() + 1, Sum: digits(5)})
	does(t, m, marks("one", "k255"), api.Out{ID: m.Index() + 1})
	does(t, m, puts("two", "new", 6), api.Out{ID: m.Index() + 1, Sum: digits(6)}) // another bucket is not full
	u := m.Index() + 1
	does(t, m, begins("one", "new"), api.Out{ID: u}) // an upload is no key yet
	does(t, m, brings("one", "new", u, 1, 9, pieces(3)...), api.Out{ID: 1, Sum: digits(9)})
	fails(t, m, joins("one", "new", u, pick(1, 9)), api.ErrMany)
	isParts(t, m, "one", "new", u, api.OK, api.Part{N: 1, Size: 3, Sum: digits(9), Pieces: pieces(3)})
	l, _ := m.Chain("one", "k003")
	does(t, m, erases("one", "k003", l[0].ID), api.Out{ID: l[0].ID})
	noKey(t, m, "one", "k003", api.ErrKey)
	does(t, m, joins("one", "new", u, pick(1, 9)), api.Out{ID: m.Index() + 1, Sum: joined(9)})
	fails(t, m, marks("one", "k003"), api.ErrMany)
	items, more, e := m.List("one", "", "", "", 1000)
	// 86 of 256 were marked; k000 is an object again, k255 is none any more, new is there in the place of k003.
	if len(items) != 170 || more || e != api.OK {
		t.Errorf("List: %d, %v, %v", len(items), more, e)
	}
}

// joined is the digest of parts of these digests.
func joined(sums ...int) string {
	var l []string
	for _, sum := range sums {
		l = append(l, digits(sum))
	}
	return digest.Hex(digest.Tagged('M', l...))
}

// Promise 17.1: how many versions a key may have, from both sides, by each command that makes one.
func TestVersions(t *testing.T) {
	m := driven(t, makes("one"), begins("one", "k"), brings("one", "k", 2, 1, 9, pieces(3)...))
	for i := range 31 {
		if i%2 == 0 {
			does(t, m, puts("one", "k", i), api.Out{ID: 4 + i, Sum: digits(i)})
		} else {
			does(t, m, marks("one", "k"), api.Out{ID: 4 + i})
		}
	}
	join := joins("one", "k", 2, pick(1, 9))
	full := func() {
		t.Helper()
		for _, c := range []api.Cmd{puts("one", "k", 1), marks("one", "k"), join} {
			fails(t, m, c, api.ErrMany)
		}
	}
	for _, last := range []api.Cmd{puts("one", "k", 77), marks("one", "k")} {
		run(t, m, last)
		id := m.Index()
		full()
		l, _ := m.Chain("one", "k")
		if len(l) != 32 || l[0].ID != id {
			t.Errorf("%d versions", len(l))
		}
		does(t, m, puts("one", "other", 5), api.Out{ID: m.Index() + 1, Sum: digits(5)})
		does(t, m, erases("one", "k", id), api.Out{ID: id})
	}
	does(t, m, erases("one", "k", 4), api.Out{ID: 4}) // the oldest one
	does(t, m, marks("one", "k"), api.Out{ID: m.Index() + 1})
	does(t, m, join, api.Out{ID: m.Index() + 1, Sum: joined(9)})
	isUploads(t, m, "one")
	v, e := m.Get("one", "k", 0)
	if e != api.OK || v.Sum != joined(9) || v.ID != m.Index() {
		t.Errorf("Get: %v, %v", v, e)
	}
	fails(t, m, puts("one", "k", 1), api.ErrMany)
	fails(t, m, join, api.ErrUpload) // it is gone, and the key is full
}

// Promise 17.1: CmdErase of the only version, of one of several, the first, a middle and the last one; its errors.
func TestErase(t *testing.T) {
	m := driven(t, makes("one"), puts("one", "k", 1, pieces(5)...), marks("one", "k"), puts("one", "k", 2), puts("one", "other", 3), marks("one", "k"))
	fails(t, m, erases("not", "k", 2), api.ErrNone)
	fails(t, m, erases("one", "x", 2), api.ErrKey)
	for _, id := range []int{1, 5, 7, 99, 1 << 40} {
		fails(t, m, erases("one", "k", id), api.ErrVersion)
	}
	fails(t, m, erases("one", "other", 2), api.ErrVersion)
	does(t, m, erases("one", "k", 3), api.Out{ID: 3})
	fails(t, m, erases("one", "k", 3), api.ErrVersion)
	isChain(t, m, "one", "k", marker(6), object(4, 2), object(2, 1, pieces(5)...))
	isKeys(t, m, "one", "other")
	does(t, m, erases("one", "k", 6), api.Out{ID: 6})
	isVersion(t, m, "one", "k", 0, object(4, 2), api.OK)
	isKeys(t, m, "one", "k", "other")
	does(t, m, erases("one", "k", 2), api.Out{ID: 2})
	isChain(t, m, "one", "k", object(4, 2))
	does(t, m, erases("one", "k", 4), api.Out{ID: 4})
	noKey(t, m, "one", "k", api.ErrKey)
	fails(t, m, erases("one", "k", 4), api.ErrKey)
	isKeys(t, m, "one", "other")
	does(t, m, erases("one", "other", 5), api.Out{ID: 5})
	does(t, m, drops("one"), api.Out{})
	fails(t, m, erases("one", "k", 4), api.ErrNone)
}

// Promise 17.1: uploads: how many there may be, from both sides; numbers and keys that are none's.
func TestUploads(t *testing.T) {
	m := driven(t, makes("one"), makes("two"))
	fails(t, m, begins("not", "u"), api.ErrNone)
	var want []api.Upload
	for i := range 16 {
		u := api.Upload{ID: m.Index() + 1, Key: fmt.Sprintf("u%d", 20-i)}
		does(t, m, begins("one", u.Key), api.Out{ID: u.ID})
		want = append(want, u)
		isUploads(t, m, "one", want...)
	}
	fails(t, m, begins("one", "u"), api.ErrMany)
	fails(t, m, begins("one", "u20"), api.ErrMany)
	does(t, m, begins("two", "u20"), api.Out{ID: 22})
	first, last := want[0], want[15]
	for _, c := range []api.Cmd{brings("one", "u", first.ID, 1, 1), joins("one", "u", first.ID, pick(1, 1)), stops("one", "u", first.ID)} {
		for _, wrong := range []struct {
			bucket, key string
			id          int
			e           api.Errno
		}{
			{"not", first.Key, first.ID, api.ErrNone}, {"two", first.Key, first.ID, api.ErrUpload}, {"one", last.Key, first.ID, api.ErrUpload}, {"one", first.Key, last.ID, api.ErrUpload},
			{"one", "u", first.ID, api.ErrUpload}, {"one", first.Key, 1, api.ErrUpload}, {"one", first.Key, 22, api.ErrUpload}, {"one", first.Key, 1 << 40, api.ErrUpload},
		} {
			c.Bucket, c.Key, c.ID = wrong.bucket, wrong.key, wrong.id
			fails(t, m, c, wrong.e)
			isParts(t, m, c.Bucket, c.Key, c.ID, wrong.e)
		}
	}
	for _, id := range []int{0, -1, math.MinInt, math.MaxInt} {
		isParts(t, m, "one", first.Key, id, api.ErrUpload)
	}
	does(t, m, stops("one", want[5].Key, want[5].ID), api.Out{ID: want[5].ID})
	fails(t, m, stops("one", want[5].Key, want[5].ID), api.ErrUpload)
	want = append(slices.Delete(want, 5, 6), api.Upload{ID: m.Index() + 1, Key: "u"})
	does(t, m, begins("one", "u"), api.Out{ID: m.Index() + 1})
	fails(t, m, begins("one", "u"), api.ErrMany)
	isUploads(t, m, "one", want...)
	isUploads(t, m, "two", api.Upload{ID: 22, Key: "u20"})
}

// Promise 17.1: parts come, are put again, and stand by their numbers; two uploads of one key have their own.
func TestParts(t *testing.T) {
	m := driven(t, makes("one"), begins("one", "u"), begins("one", "u"))
	isParts(t, m, "one", "u", 2, api.OK)
	does(t, m, brings("one", "u", 2, 9, 5, pieces(7, 8)...), api.Out{ID: 9, Sum: digits(5)})
	does(t, m, brings("one", "u", 2, 1, 6), api.Out{ID: 1, Sum: digits(6)})
	does(t, m, brings("one", "u", 3, 1, 7, pieces(9)...), api.Out{ID: 1, Sum: digits(7)})
	does(t, m, brings("one", "u", 2, 100, 8, many(512, 2048)...), api.Out{ID: 100, Sum: digits(8)})
	nine := api.Part{N: 9, Size: 15, Sum: digits(5), Pieces: pieces(7, 8)}
	hundred := api.Part{N: 100, Size: 1 << 20, Sum: digits(8), Pieces: many(512, 2048)}
	isParts(t, m, "one", "u", 2, api.OK, api.Part{N: 1, Sum: digits(6)}, nine, hundred)
	does(t, m, brings("one", "u", 2, 1, 9, pieces(64)...), api.Out{ID: 1, Sum: digits(9)})
	isParts(t, m, "one", "u", 2, api.OK, api.Part{N: 1, Size: 64, Sum: digits(9), Pieces: pieces(64)}, nine, hundred)
	isParts(t, m, "one", "u", 3, api.OK, api.Part{N: 1, Size: 9, Sum: digits(7), Pieces: pieces(9)})
	noKey(t, m, "one", "u", api.ErrKey) // nothing is a version yet
	isKeys(t, m, "one")
}

// Promise 17.1: CmdJoin: each error of parts.Join, one ahead of the other; what is put together; the upload goes.
func TestJoin(t *testing.T) {
	m := driven(t, makes("one"), begins("one", "u"),
		brings("one", "u", 2, 1, 11, pieces(64)...), brings("one", "u", 2, 2, 12, pieces(63)...), brings("one", "u", 2, 3, 13, many(200, 4096)...),
		brings("one", "u", 2, 4, 14, many(200, 4096)...), brings("one", "u", 2, 5, 15, many(512, 1)...), brings("one", "u", 2, 6, 16))
	for _, x := range []struct {
		what  string
		picks []api.Pick
		e     api.Errno
	}{
		{"no picks", nil, api.ErrArg},
		{"picks that fall", []api.Pick{pick(3, 13), pick(1, 11)}, api.ErrArg},
		{"one part twice", []api.Pick{pick(1, 11), pick(1, 11)}, api.ErrArg},
		{"picks that fall, of parts that are not there", []api.Pick{pick(9, 1), pick(8, 1)}, api.ErrArg},
		{"a part that is not there", []api.Pick{pick(1, 11), pick(7, 11)}, api.ErrPart},
		{"the part 0", []api.Pick{pick(0, 11)}, api.ErrPart},
		{"another digest", []api.Pick{pick(1, 12)}, api.ErrPart},
		{"a small one, and one that is not there", []api.Pick{pick(2, 12), pick(3, 13), pick(7, 1)}, api.ErrPart},
		{"a small one", []api.Pick{pick(2, 12), pick(3, 13)}, api.ErrSmall},
		{"an empty one that is not the last", []api.Pick{pick(1, 11), pick(2, 12), pick(6, 16)}, api.ErrSmall},
		{"a small one, and too much", []api.Pick{pick(2, 12), pick(3, 13), pick(4, 14)}, api.ErrSmall},
		{"too many bytes", []api.Pick{pick(3, 13), pick(4, 14)}, api.ErrLong},
		{"too many pieces", []api.Pick{pick(1, 11), pick(5, 15)}, api.ErrLong},
	} {
		fails(t, m, joins("one", "u", 2, x.picks...), x.e)
		fails(t, m, joins("one", "x", 2, x.picks...), api.ErrUpload)
		fails(t, m, joins("not", "u", 2, x.picks...), api.ErrNone)
		if t.Failed() {
			t.Fatalf("with %s", x.what)
		}
	}
	noKey(t, m, "one", "u", api.ErrKey)
	id := m.Index() + 1
	does(t, m, joins("one", "u", 2, pick(1, 11), pick(3, 13), pick(6, 16)), api.Out{ID: id, Sum: joined(11, 13, 16)})
	want := api.Version{ID: id, Size: 64 + 200*4096, Sum: joined(11, 13, 16), Pieces: append(pieces(64), many(200, 4096)...)}
	isChain(t, m, "one", "u", want)
	isVersion(t, m, "one", "u", 0, want, api.OK)
	isUploads(t, m, "one")
	isParts(t, m, "one", "u", 2, api.ErrUpload)
	fails(t, m, joins("one", "u", 2, pick(1, 11)), api.ErrUpload)
	fails(t, m, stops("one", "u", 2), api.ErrUpload)
	does(t, m, drops("one"), failed(api.ErrFilled))
}

// Promise 17.1: an error of parts.Join comes ahead of a key that is full.
func TestJoinFull(t *testing.T) {
	m := driven(t, makes("one"), begins("one", "k"), brings("one", "k", 2, 1, 9, pieces(3)...))
	for range 32 {
		run(t, m, marks("one", "k"))
	}
	fails(t, m, joins("one", "k", 2), api.ErrArg)
	fails(t, m, joins("one", "k", 2, pick(2, 9)), api.ErrPart)
	fails(t, m, joins("one", "x", 2, pick(1, 9)), api.ErrUpload)
	fails(t, m, joins("one", "k", 2, pick(1, 9)), api.ErrMany)
	isUploads(t, m, "one", api.Upload{ID: 2, Key: "k"})
	isParts(t, m, "one", "k", 2, api.OK, api.Part{N: 1, Size: 3, Sum: digits(9), Pieces: pieces(3)})
}

// Promise 17.1: in a bucket that is not there ErrNone comes ahead of all else; each kind.
func TestNoBucket(t *testing.T) {
	m := driven(t, makes("one"), begins("one", "u"))
	for _, c := range []api.Cmd{drops("not"), puts("not", "k", 1), marks("not", "k"), erases("not", "k", 1), begins("not", "k"), brings("not", "k", 2, 1, 1), joins("not", "k", 2), stops("not", "k", 2)} {
		fails(t, m, c, api.ErrNone)
	}
	noKey(t, m, "not", "k", api.ErrNone)
	noKey(t, m, "", "", api.ErrNone)
	noKey(t, m, "ONE", "k", api.ErrNone)
	if l, more, e := m.List("not", "", "", "", 9); len(l) != 0 || more || e != api.ErrNone {
		t.Errorf("List: %v, %v, %v", l, more, e)
	}
	if l, e := m.Uploads("not"); len(l) != 0 || e != api.ErrNone {
		t.Errorf("Uploads: %v, %v", l, e)
	}
	isParts(t, m, "not", "u", 2, api.ErrNone)
}
