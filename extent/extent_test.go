package extent_test

import (
	"crypto/sha256"
	"encoding/binary"
	"encoding/hex"
	"fmt"
	"maps"
	"math/rand"
	"slices"
	"strings"
	"testing"
	"unsafe"

	"stowage/api"
	"stowage/disk"
	"stowage/extent"
	"stowage/frame"
)

// files are the bytes of files by their names.
type files = map[string]string

// sizes are those about a block's and an extent's.
var sizes = []int{1, 2, 511, 512, 513, 1023, 1024, 1025, 4095, 4096}

func ok(t *testing.T, what string, e api.Errno) {
	t.Helper()
	is(t, what, e, api.OK)
}

func is(t *testing.T, what string, e, want api.Errno) {
	t.Helper()
	if e != want {
		t.Errorf("%s: %v, not %v", what, e, want)
	}
}

// opened is the store of a disk on which there is nothing to take away.
func opened(t *testing.T, d *disk.Disk) *extent.Store {
	t.Helper()
	x, n, e := extent.Open(d)
	if x == nil || n != 0 || e != api.OK {
		t.Fatalf("Open: %v, %d, %v", x, n, e)
	}
	return x
}

// made is a disk on which all of this was written and made sure.
func made(t *testing.T, all files) *disk.Disk {
	t.Helper()
	d := disk.New()
	for _, name := range slices.Sorted(maps.Keys(all)) {
		ok(t, "Write", d.Write(name, all[name]))
	}
	ok(t, "Sync", d.Sync())
	return d
}

// on is all files of a disk.
func on(d *disk.Disk) files {
	all := files{}
	for _, name := range d.Names() {
		all[name], _ = d.Read(name)
	}
	return all
}

// holds asks that a disk has just these files, surely.
func holds(t *testing.T, what string, d *disk.Disk, want files) {
	t.Helper()
	if got := on(d); !maps.Equal(got, want) {
		t.Errorf("%s: the files %.300q, not %.300q", what, got, want)
	}
	if d.Waits() != 0 {
		t.Errorf("%s: %d wait", what, d.Waits())
	}
}

// bytesOf are n bytes, unlike one another.
func bytesOf(n int) string {
	b := make([]byte, n)
	rand.New(rand.NewSource(int64(n))).Read(b)
	return string(b)
}

// idOf is an id, by the library's digest.
func idOf(s string) string {
	sum := sha256.Sum256(append(binary.BigEndian.AppendUint64([]byte("E"), uint64(len(s))), s...))
	return hex.EncodeToString(sum[:])
}

// framed are the frames of bodies.
func framed(bodies ...string) string {
	s := ""
	for _, body := range bodies {
		one, e := frame.Frame(body)
		if e != api.OK {
			panic(e)
		}
		s += one
	}
	return s
}

// fileOf is the file of an extent.
func fileOf(s string) string {
	file := ""
	for ; len(s) > api.MaxBlock; s = s[api.MaxBlock:] {
		file += framed(s[:api.MaxBlock])
	}
	return file + framed(s)
}

// stored are the files of extents.
func stored(l ...string) files {
	all := files{}
	for _, s := range l {
		all["e."+idOf(s)] = fileOf(s)
	}
	return all
}

// with are files and some more of them.
func with(all, more files) files {
	sum := maps.Clone(all)
	maps.Copy(sum, more)
	return sum
}

// lacks asks that a store has no extent of an id, for a reason.
func lacks(t *testing.T, what string, x *extent.Store, id string, why api.Errno) {
	t.Helper()
	if s, e := x.Get(id); s != "" || e != why {
		t.Errorf("%s: Get: %.40q, %v, not %v", what, s, e, why)
	}
	if x.Has(id) {
		t.Errorf("%s: Has", what)
	}
}

// has asks that a store has an extent.
func has(t *testing.T, what string, x *extent.Store, s string) {
	t.Helper()
	if got, e := x.Get(idOf(s)); got != s || e != api.OK {
		t.Errorf("%s: Get: %.40q, %v", what, got, e)
	}
	if !x.Has(idOf(s)) {
		t.Errorf("%s: Has not", what)
	}
}

// puts asks that an extent is put.
func puts(t *testing.T, what string, x *extent.Store, s string) {
	t.Helper()
	if id, e := x.Put(s); id != idOf(s) || e != api.OK {
		t.Errorf("%s: Put: %q, %v", what, id, e)
	}
	has(t, what, x, s)
}

// The examples of the chapter.
func TestExamples(t *testing.T) {
	d := disk.New()
	x := opened(t, d)
	puts(t, "a", x, "a")
	if s, _ := d.Read("e." + extent.ID("a")); len(s) != 9 || s[8] != 'a' {
		t.Errorf("the file %q", s)
	}
	if l := extent.Cut(bytesOf(5000)); len(l) != 2 || len(l[0]) != 4096 || len(l[1]) != 904 {
		t.Errorf("Cut: %d", len(l))
	}
	lacks(t, "noughts", x, strings.Repeat("0", 64), api.ErrNone)
}

// Promise 6.1: the id of any bytes.
func TestID(t *testing.T) {
	for _, n := range append([]int{0, 4097, 10000}, sizes...) {
		s := bytesOf(n)
		if extent.ID(s) != idOf(s) {
			t.Errorf("ID of %d bytes: %q", n, extent.ID(s))
		}
	}
}

// Promise 6.1: bytes are cut behind each MaxExtent.
func TestCut(t *testing.T) {
	for _, n := range append([]int{0, 4097, 5000, 8191, 8192, 8193, 40960, 41000}, sizes...) {
		s := bytesOf(n)
		l := extent.Cut(s)
		if strings.Join(l, "") != s || len(l) != (n+4095)/4096 {
			t.Errorf("Cut of %d: %d", n, len(l))
		}
		for i, one := range l {
			if len(one) == 0 || len(one) > 4096 || i < len(l)-1 && len(one) != 4096 {
				t.Errorf("Cut of %d: %d is %d", n, i, len(one))
			}
			if unsafe.StringData(one) == unsafe.StringData(s[i*4096:]) {
				t.Errorf("Cut of %d: %d is one memory with the bytes", n, i)
			}
		}
	}
}

// Promise 6.2: what is put is got, and lies in its blocks.
func TestPut(t *testing.T) {
	d := disk.New()
	x := opened(t, d)
	all := files{}
	for _, n := range sizes {
		s := bytesOf(n)
		lacks(t, "ahead of Put", x, idOf(s), api.ErrNone)
		puts(t, fmt.Sprint("Put of ", n), x, s)
		all = with(all, stored(s))
		holds(t, fmt.Sprint("Put of ", n), d, all)
	}
	for _, n := range sizes {
		has(t, "behind all", opened(t, d), bytesOf(n))
	}
	changes := d.Changes()
	for _, c := range []struct {
		s string
		e api.Errno
	}{{"", api.ErrArg}, {bytesOf(4097), api.ErrLong}, {bytesOf(5000), api.ErrLong}, {bytesOf(1 << 20), api.ErrLong}} {
		if id, e := x.Put(c.s); id != "" || e != c.e {
			t.Errorf("Put of %d: %q, %v", len(c.s), id, e)
		}
	}
	holds(t, "wrong ones", d, all)
	if d.Changes() != changes {
		t.Errorf("wrong ones: a change")
	}
}

// Promise 6.2: what is there and right is not put again; what is there but not right is.
func TestPutAgain(t *testing.T) {
	s := bytesOf(700)
	d := disk.New()
	x := opened(t, d)
	puts(t, "Put", x, s)
	ok(t, "Append", d.Append("other", "x"))
	changes := d.Changes()
	puts(t, "Put again", x, s)
	if d.Changes() != changes || d.Waits() != 1 {
		t.Errorf("Put again: %d changes, %d wait", d.Changes()-changes, d.Waits())
	}
	for _, wrong := range wrongFiles(s) {
		d := disk.New()
		x := opened(t, d)
		ok(t, "Write", d.Write("e."+idOf(s), wrong))
		puts(t, "Put of what is not right", x, s)
		holds(t, "Put of what is not right", d, stored(s))
	}
}

// wrongFiles are files that are not right for an extent of more than a block and less than two.
func wrongFiles(s string) []string {
	good := fileOf(s)
	l := []string{
		"", "x", good + "x", good + good, good + framed(""), framed("") + good, good[1:], "x" + good, framed(s), framed(s[:511], s[511:]), framed(s[:513], s[513:]),
		framed(s[:512], s[512:600], s[600:]), framed(s[:512], "", s[512:]), framed(s[:512]), framed(s[512:]), framed(s[512:], s[:512]), framed(s[:512], s[512:len(s)-1]),
		framed(s[:512], s[512:]+"x"), fileOf("another"), fileOf(s + "x"), framed(""), framed("", ""), fileOf(strings.Repeat("x", 4097)), framed(strings.Repeat("x", 100000)), strings.Repeat("\x00", 8),
	}
	for i := 0; i < len(good); i += 13 {
		l = append(l, good[:i], good[:i]+string([]byte{good[i] ^ 1})+good[i+1:], good[:i]+"x"+good[i:], good[:i]+good[i+1:])
	}
	return l
}

// Promises 6.1 and 6.2: a file that is torn, changed, longer, cut into other blocks, another's, is told as wrong, and goes.
func TestWrongFiles(t *testing.T) {
	s := bytesOf(700)
	for _, wrong := range wrongFiles(s) {
		what := fmt.Sprintf("a file of %d bytes, %.20q", len(wrong), wrong)
		d := disk.New()
		x := opened(t, d)
		puts(t, what, x, "good")
		ok(t, what, d.Write("e."+idOf(s), wrong))
		ok(t, what, d.Sync())
		lacks(t, what, x, idOf(s), api.ErrSum)
		has(t, what, x, "good")
		if want := sorted(idOf("good"), idOf(s)); !slices.Equal(x.All(), want) {
			t.Errorf("%s: All: %q", what, x.All())
		}
		y, n, e := extent.Open(d)
		if y == nil || n != 1 || e != api.OK {
			t.Errorf("%s: Open: %d, %v", what, n, e)
		}
		holds(t, what, d, stored("good"))
		lacks(t, what, y, idOf(s), api.ErrNone)
		opened(t, d)
	}
}

// Words: files of blocks that have the id, but are no extent, since there are too many bytes, or none.
func TestNoExtents(t *testing.T) {
	long := bytesOf(4097)
	for _, all := range []files{stored(long), {"e." + idOf(""): ""}, {"e." + idOf(""): framed("")}} {
		d := disk.New()
		x := opened(t, d)
		for name, file := range all {
			ok(t, "Write", d.Write(name, file))
		}
		lacks(t, "no extent", x, x.All()[0], api.ErrSum)
		if _, n, e := extent.Open(d); n != 1 || e != api.OK {
			t.Errorf("no extent: Open: %d, %v", n, e)
		}
		holds(t, "no extent", d, files{})
	}
}

func sorted(l ...string) []string {
	slices.Sort(l)
	return l
}

// Promise 6.4: a file any bit of which was turned is told as wrong.
func TestTurnedBits(t *testing.T) {
	for _, n := range []int{1, 40, 513} {
		s := bytesOf(n)
		d := made(t, stored(s))
		x := opened(t, d)
		file := fileOf(s)
		for i := range len(file) {
			for bit := range 8 {
				d.Write("e."+idOf(s), file[:i]+string([]byte{file[i] ^ 1<<bit})+file[i+1:])
				lacks(t, fmt.Sprintf("bit %d of byte %d of %d", bit, i, n), x, idOf(s), api.ErrSum)
			}
		}
		d.Write("e."+idOf(s), file)
		has(t, "turned back", x, s)
	}
}

// noIDs are texts that may not be ids.
func noIDs() []string {
	id := idOf("a")
	return []string{
		"", "a", "new", id[:63], id + "0", id + id, id[:63] + "g", "G" + id[1:], strings.ToUpper(idOf("a")), id[:63] + "/", id[:63] + ":", id[:63] + "`",
		" " + id[1:], id[:63] + "\x00", id[:62] + "é", strings.Repeat("0", 63), strings.Repeat("0", 65), strings.Repeat("a", 62), "e." + id, strings.Repeat("0", 100000),
	}
}

// Promise 6.2: ids that may not be.
func TestWrongIDs(t *testing.T) {
	d := disk.New()
	x := opened(t, d)
	puts(t, "a", x, "a")
	for _, id := range noIDs() {
		lacks(t, fmt.Sprintf("the id %.70q", id), x, id, api.ErrArg)
	}
	d.Fail(0, 0)
	for _, id := range noIDs() {
		lacks(t, fmt.Sprintf("down, the id %.70q", id), x, id, api.ErrArg)
	}
	lacks(t, "down", x, idOf("a"), api.ErrDown)
}

// Promises 6.1 and 6.2: files of other names are let be, and are no extents.
func TestOtherNames(t *testing.T) {
	others := files{"hard": "x", "w.1": "x", "e": "x", "e.": "x", "f." + idOf("a"): "x", idOf("a"): "x", "ee." + idOf("a"): "x", "e.new.new": "x", "e.ne": "x", "e-" + idOf("a"): "x"}
	for _, id := range noIDs() {
		if name := "e." + id; id != "new" && disk.Name(name) {
			others[name] = "x"
		}
	}
	d := made(t, with(others, stored("a")))
	x := opened(t, d)
	holds(t, "Open", d, with(others, stored("a")))
	if l := x.All(); !slices.Equal(l, []string{idOf("a")}) {
		t.Errorf("All: %q", l)
	}
	if n, e := x.Keep(nil); n != 1 || e != api.OK {
		t.Errorf("Keep: %d, %v", n, e)
	}
	holds(t, "Keep", d, others)
}

// Promise 6.1: no disk, one that is down; e.new that was left, with others and without.
func TestOpen(t *testing.T) {
	if x, n, e := extent.Open(nil); x != nil || n != 0 || e != api.ErrArg {
		t.Errorf("Open(nil): %v, %d, %v", x, n, e)
	}
	d := made(t, files{"e." + idOf("a"): "x", "e.new": "y"})
	d.Fail(0, 0)
	if x, n, e := extent.Open(d); x != nil || n != 0 || e != api.ErrDown {
		t.Errorf("Open of a disk that is down: %v, %d, %v", x, n, e)
	}
	d.Up()
	for _, spare := range []string{"", "x", fileOf("a")} {
		for _, wrong := range []files{{}, {"e." + idOf("b"): "wrong"}, {"e." + idOf("b"): "", "e." + idOf("c"): fileOf("b"), "e." + idOf("d"): "x"}} {
			d := made(t, with(with(wrong, stored("a", "z")), files{"e.new": spare}))
			x, n, e := extent.Open(d)
			if x == nil || n != len(wrong) || e != api.OK {
				t.Errorf("Open: %v, %d, %v", x, n, e)
			}
			holds(t, "Open", d, stored("a", "z"))
			if l := x.All(); !slices.Equal(l, sorted(idOf("a"), idOf("z"))) {
				t.Errorf("All: %q", l)
			}
		}
	}
	d = made(t, stored("a"))
	ok(t, "Append", d.Append("other", "x"))
	opened(t, d)
	if d.Waits() != 1 {
		t.Errorf("Open without anything to take away: %d wait", d.Waits())
	}
}

// Promise 6.2: All rises, with what is not right.
func TestAll(t *testing.T) {
	d := disk.New()
	x := opened(t, d)
	if l := x.All(); len(l) != 0 {
		t.Errorf("All of nothing: %q", l)
	}
	var want []string
	for i := range 30 {
		s := fmt.Sprint(i)
		want = append(want, idOf(s))
		if i%3 == 0 {
			ok(t, "Write", d.Write("e."+idOf(s), "wrong"))
		} else {
			puts(t, s, x, s)
		}
	}
	if l := x.All(); !slices.Equal(l, sorted(want...)) {
		t.Errorf("All: %q", l)
	}
	l := x.All()
	l[0] = "x"
	if !slices.Equal(x.All(), sorted(want...)) {
		t.Errorf("All changed with an answer")
	}
	d.Fail(0, 0)
	if l := x.All(); len(l) != 0 {
		t.Errorf("All of a disk that is down: %q", l)
	}
}

// Promise 6.2: Keep of none, some, all, more than there are.
func TestKeep(t *testing.T) {
	a, b, c, none := idOf("a"), idOf("b"), idOf("c"), idOf("none")
	for _, k := range []struct {
		ids  []string
		left []string
	}{
		{nil, nil}, {[]string{}, nil}, {[]string{none}, nil}, {noIDs(), nil}, {[]string{"e." + a}, nil}, {[]string{strings.ToUpper(a)}, nil},
		{[]string{a}, []string{"a"}}, {[]string{c, none, "x"}, []string{"c"}}, {[]string{c, b, c, c}, []string{"b", "c"}},
		{[]string{a, b, c}, []string{"a", "b", "c"}}, {[]string{c, none, b, "", a}, []string{"a", "b", "c"}},
	} {
		d := disk.New()
		x := opened(t, d)
		for _, s := range []string{"a", "b", "c"} {
			puts(t, s, x, s)
		}
		ok(t, "Append", d.Append("other", "x"))
		ids := slices.Clone(k.ids)
		if n, e := x.Keep(ids); n != 3-len(k.left) || e != api.OK {
			t.Errorf("Keep %.200q: %d, %v", k.ids, n, e)
		}
		if !slices.Equal(ids, k.ids) {
			t.Errorf("Keep changed what was handed in")
		}
		// Nothing is made sure where nothing went.
		if went := len(k.left) < 3; (d.Waits() == 0) != went {
			t.Errorf("Keep %.200q: %d wait", k.ids, d.Waits())
		}
		ok(t, "Sync", d.Sync())
		holds(t, fmt.Sprintf("Keep %.200q", k.ids), d, with(stored(k.left...), files{"other": "x"}))
	}
	d := disk.New()
	x := opened(t, d)
	if n, e := x.Keep([]string{a}); n != 0 || e != api.OK {
		t.Errorf("Keep of nothing: %d, %v", n, e)
	}
	// What is not right is kept, or goes, as others are.
	puts(t, "a", x, "a")
	ok(t, "Write", d.Write("e."+b, "wrong"))
	ok(t, "Write", d.Write("e."+c, "wrong"))
	if n, e := x.Keep([]string{b}); n != 2 || e != api.OK {
		t.Errorf("Keep of what is not right: %d, %v", n, e)
	}
	holds(t, "what is not right", d, files{"e." + b: "wrong"})
}

// Promise 6.2: room that is short.
func TestFull(t *testing.T) {
	for _, n := range sizes {
		s := bytesOf(n)
		d := disk.New()
		x := opened(t, d)
		puts(t, "some", x, "some")
		for _, room := range []int{0, 1, 8, len(fileOf(s)) - 1} {
			d.Room(d.Used() + room)
			if id, e := x.Put(s); id != "" || e != api.ErrFull {
				t.Errorf("Put of %d with room for %d: %q, %v", n, room, id, e)
			}
			holds(t, "full", d, stored("some"))
			puts(t, "what is there", x, "some")
			lacks(t, "full", x, idOf(s), api.ErrNone)
		}
		d.Room(d.Used() + len(fileOf(s)))
		puts(t, "room", x, s)
		holds(t, "room", d, stored("some", s))
		if n, e := x.Keep([]string{idOf(s)}); n != 1 || e != api.OK {
			t.Errorf("Keep without room: %d, %v", n, e)
		}
	}
	d := disk.New()
	d.Room(0)
	opened(t, d)
}

// Promise 6.3: a nil store, and one that no call made.
func TestNoStore(t *testing.T) {
	for _, x := range []*extent.Store{nil, {}} {
		for _, s := range []string{"", "a", bytesOf(5000)} {
			if id, e := x.Put(s); id != "" || e != api.ErrArg {
				t.Errorf("Put: %q, %v", id, e)
			}
		}
		lacks(t, "no store", x, idOf("a"), api.ErrArg)
		lacks(t, "no store", x, "no id", api.ErrArg)
		if l := x.All(); len(l) != 0 {
			t.Errorf("All: %q", l)
		}
		if n, e := x.Keep([]string{idOf("a")}); n != 0 || e != api.ErrArg {
			t.Errorf("Keep: %d, %v", n, e)
		}
	}
}

// Rule R3: what is got is nobody else's memory.
func TestSharesNothing(t *testing.T) {
	x := opened(t, disk.New())
	s := bytesOf(900)
	one, _ := x.Put(s)
	two, _ := x.Put(s)
	if unsafe.StringData(one) == unsafe.StringData(two) {
		t.Errorf("an id is one memory with another")
	}
	first, _ := x.Get(one)
	second, _ := x.Get(one)
	if unsafe.StringData(first) == unsafe.StringData(second) || unsafe.StringData(first) == unsafe.StringData(s) {
		t.Errorf("an extent is one memory with another")
	}
}

// Promise 6.4: whatever a file holds, what is got by an id has that id.
func FuzzGet(f *testing.F) {
	f.Add("a", fileOf("a"))
	f.Add("", framed(""))
	f.Add(bytesOf(513), fileOf(bytesOf(513)))
	f.Add("ab", framed("a", "b"))
	f.Fuzz(func(t *testing.T, s, file string) {
		d := disk.New()
		x := opened(t, d)
		ok(t, "Write", d.Write("e."+extent.ID(s), file))
		got, e := x.Get(extent.ID(s))
		right := s != "" && len(s) <= api.MaxExtent && file == fileOf(s)
		if right != (e == api.OK) || right && got != s || !right && (got != "" || e != api.ErrSum) {
			t.Errorf("Get: %q, %v", got, e)
		}
	})
}
