package disk_test

import (
	"maps"
	"math"
	"slices"
	"strings"
	"testing"
	"unsafe"

	"stowage/api"
	"stowage/disk"
)

// names are texts that may be names.
var names = []string{"a", "z", "0", "9", ".", "-", "..", "-.-", "a.b-c.0", strings.Repeat("a", api.MaxFile)}

// noNames are texts that may not.
var noNames = []string{"", strings.Repeat("a", api.MaxFile+1), strings.Repeat("a", 1000), "A", "Z", "a b", "a/b", "a_b", "a\x00", "é", "\xff", "`", "{", "/", ":", ",", "a\n"}

// made is a disk on which all of this was written and made sure.
func made(t *testing.T, files map[string]string) *disk.Disk {
	t.Helper()
	d := disk.New()
	for _, name := range slices.Sorted(maps.Keys(files)) {
		ok(t, "Write", d.Write(name, files[name]))
	}
	ok(t, "Sync", d.Sync())
	return d
}

func ok(t *testing.T, what string, e api.Errno) {
	t.Helper()
	is(t, what, e, api.OK)
}

func is(t *testing.T, what string, e, want api.Errno) {
	t.Helper()
	if e != want {
		t.Errorf("%s: %v, not %v", what, e, want)
	}
}

// holds asks that a disk has just these files.
func holds(t *testing.T, what string, d *disk.Disk, want map[string]string) {
	t.Helper()
	used := 0
	for name, s := range want {
		used += len(s)
		if got, e := d.Read(name); got != s || e != api.OK {
			t.Errorf("%s: %s is %q, %v, not %q", what, name, got, e, s)
		}
	}
	if got := d.Names(); !slices.Equal(got, slices.Sorted(maps.Keys(want))) {
		t.Errorf("%s: Names: %q", what, got)
	}
	if d.Used() != used {
		t.Errorf("%s: Used: %d, not %d", what, d.Used(), used)
	}
}

// counts asks how many changes there were, and wait.
func counts(t *testing.T, what string, d *disk.Disk, changes, waits int) {
	t.Helper()
	if d.Changes() != changes || d.Waits() != waits {
		t.Errorf("%s: %d changes, %d wait; not %d and %d", what, d.Changes(), d.Waits(), changes, waits)
	}
}

// again lets the power fail and come again.
func again(t *testing.T, d *disk.Disk, keep, torn int) {
	t.Helper()
	d.Fail(keep, torn)
	if !d.Down() || d.Waits() != 0 {
		t.Errorf("Fail(%d, %d): down %v, %d wait", keep, torn, d.Down(), d.Waits())
	}
	if !d.Up() || d.Down() {
		t.Errorf("a disk that is down did not come up")
	}
}

// Words: which texts are names; at each place each byte.
func TestName(t *testing.T) {
	for _, s := range names {
		if !disk.Name(s) {
			t.Errorf("%q is no name", s)
		}
	}
	for _, s := range noNames {
		if disk.Name(s) {
			t.Errorf("%q is a name", s)
		}
	}
	const may = "abcdefghijklmnopqrstuvwxyz0123456789.-"
	for i := range 256 {
		c := string([]byte{byte(i)})
		for _, s := range []string{c, c + "a", "a" + c, "a" + c + "a"} {
			if disk.Name(s) != strings.Contains(may, c) {
				t.Errorf("Name(%q): %v", s, disk.Name(s))
			}
		}
	}
	for n := range 200 {
		if disk.Name(strings.Repeat("x", n)) != (1 <= n && n <= api.MaxFile) {
			t.Errorf("a name of %d bytes", n)
		}
	}
}

// Promise 4.1: Append makes a file, and goes on behind it.
func TestAppend(t *testing.T) {
	d := disk.New()
	ok(t, "Append", d.Append("a", "xy"))
	ok(t, "Append", d.Append("a", "z"))
	ok(t, "Append of nothing", d.Append("a", ""))
	ok(t, "Append of nothing to no file", d.Append("b", ""))
	holds(t, "appended", d, map[string]string{"a": "xyz", "b": ""})
	counts(t, "appended", d, 4, 4)
}

// Promise 4.1: many pieces, synced among them now and then.
func TestAppendMany(t *testing.T) {
	d := disk.New()
	want := ""
	for i := range 20000 {
		s := string([]byte{byte(i), byte(i >> 8), 7})
		want += s
		ok(t, "Append", d.Append("a", s))
		if i%100 == 0 {
			ok(t, "Sync", d.Sync())
		}
	}
	holds(t, "many pieces", d, map[string]string{"a": want})
	again(t, d, 5, 1)
	holds(t, "many pieces but some", d, map[string]string{"a": want[:3*(19901+5)+1]})
}

// Promise 4.1.
func TestWrite(t *testing.T) {
	d := disk.New()
	for _, s := range []string{"long enough", "", "x", "\x00\xff"} {
		ok(t, "Write", d.Write("a", s))
		holds(t, "written", d, map[string]string{"a": s})
	}
	ok(t, "Write of the same", d.Write("a", "\x00\xff"))
	counts(t, "written", d, 5, 5)
}

// Promise 4.1: Move to a name that is free, onto another file, onto itself, of no file.
func TestMove(t *testing.T) {
	d := made(t, map[string]string{"a": "one", "b": "two", "c": "three"})
	ok(t, "Move", d.Move("a", "d"))
	holds(t, "moved", d, map[string]string{"b": "two", "c": "three", "d": "one"})
	ok(t, "Move onto another", d.Move("b", "c"))
	holds(t, "moved", d, map[string]string{"c": "two", "d": "one"})
	is(t, "Move onto itself", d.Move("c", "c"), api.ErrArg)
	is(t, "Move of none", d.Move("b", "c"), api.ErrNone)
	is(t, "Move of none onto itself", d.Move("b", "b"), api.ErrNone)
	holds(t, "moved", d, map[string]string{"c": "two", "d": "one"})
	ok(t, "Append to what was moved", d.Append("c", "!"))
	ok(t, "Append to what it was", d.Append("b", "?"))
	holds(t, "moved", d, map[string]string{"b": "?", "c": "two!", "d": "one"})
	counts(t, "moved", d, 7, 4)
}

// Promise 4.1.
func TestRemove(t *testing.T) {
	d := made(t, map[string]string{"a": "one", "b": ""})
	ok(t, "Remove", d.Remove("a"))
	is(t, "Remove of none", d.Remove("a"), api.ErrNone)
	holds(t, "removed", d, map[string]string{"b": ""})
	ok(t, "Remove of an empty one", d.Remove("b"))
	holds(t, "removed", d, nil)
	ok(t, "Append behind Remove", d.Append("a", "x"))
	holds(t, "removed", d, map[string]string{"a": "x"})
	counts(t, "removed", d, 5, 3)
}

// Promise 4.1: Cut at 0, at the length, between, and outside.
func TestCut(t *testing.T) {
	for long := range 6 {
		d := made(t, map[string]string{"a": "12345", "b": "x"})
		ok(t, "Cut", d.Cut("a", long))
		holds(t, "cut", d, map[string]string{"a": "12345"[:long], "b": "x"})
		counts(t, "cut", d, 3, 1)
		ok(t, "Append", d.Append("a", "abcdefgh"))
		holds(t, "cut and appended", d, map[string]string{"a": "12345"[:long] + "abcdefgh", "b": "x"})
		again(t, d, 1, 0)
		holds(t, "the cut was kept", d, map[string]string{"a": "12345"[:long], "b": "x"})
	}
	d := made(t, map[string]string{"a": "12345"})
	for _, long := range []int{-1, 6, math.MinInt, math.MaxInt} {
		is(t, "Cut outside", d.Cut("a", long), api.ErrArg)
		is(t, "Cut of none", d.Cut("b", long), api.ErrNone)
	}
	is(t, "Cut of none at 0", d.Cut("b", 0), api.ErrNone)
	holds(t, "cut outside", d, map[string]string{"a": "12345"})
	counts(t, "cut outside", d, 1, 0)
}

// Promise 4.1: bytes that are sure come again behind a cut, whatever was laid there.
func TestCutKeepsWhatIsSure(t *testing.T) {
	for _, first := range []string{"12345678", strings.Repeat("s", 100)} {
		d := disk.New()
		for i := range len(first) {
			ok(t, "Append", d.Append("a", first[i:i+1]))
		}
		ok(t, "Sync", d.Sync())
		ok(t, "Cut", d.Cut("a", 3))
		ok(t, "Append", d.Append("a", "zz"))
		ok(t, "Move", d.Move("a", "b"))
		ok(t, "Append", d.Append("b", "yy"))
		again(t, d, 0, 9)
		holds(t, "as if nothing had been", d, map[string]string{"a": first})
	}
}

// every calls all that answer an error, by what they are called.
func every(d *disk.Disk, name string) map[string]api.Errno {
	_, read := d.Read(name)
	return map[string]api.Errno{
		"Append": d.Append(name, "x"), "Write": d.Write(name, "x"), "Move": d.Move(name, "other"), "Move to": d.Move("there", name),
		"Remove": d.Remove(name), "Cut": d.Cut(name, 0), "Read": read,
	}
}

// Promise 4.1: ErrName comes behind ErrDown, and ahead of all others.
func TestNamesThatMayNotBe(t *testing.T) {
	files := map[string]string{"there": "x"}
	d := made(t, files)
	d.Room(1)
	for _, name := range noNames {
		for what, e := range every(d, name) {
			is(t, what, e, api.ErrName)
		}
		is(t, "Move of none", d.Move("none", name), api.ErrName)
		is(t, "Move onto itself", d.Move(name, name), api.ErrName)
		is(t, "Cut outside", d.Cut(name, -1), api.ErrName)
		is(t, "Append of nothing", d.Append(name, ""), api.ErrName)
	}
	holds(t, "wrong names", d, files)
	counts(t, "wrong names", d, 1, 0)
	for _, name := range names {
		d := disk.New()
		ok(t, "Append", d.Append(name, "x"))
		ok(t, "Write", d.Write(name, "y"))
		ok(t, "Cut", d.Cut(name, 1))
		holds(t, "a name", d, map[string]string{name: "y"})
		ok(t, "Move", d.Move(name, "to"))
		ok(t, "Move back", d.Move("to", name))
		ok(t, "Remove", d.Remove(name))
		holds(t, "a name", d, nil)
	}
}

// Promises 4.1 and 4.2: of a disk that is down.
func TestDown(t *testing.T) {
	files := map[string]string{"there": "x", "b": "yz"}
	d := made(t, files)
	d.Write("b", "lost")
	d.Fail(0, 0)
	for _, name := range []string{"there", "none", "", "A"} {
		for what, e := range every(d, name) {
			is(t, what, e, api.ErrDown)
		}
	}
	is(t, "Sync", d.Sync(), api.ErrDown)
	if s, e := d.Read("there"); s != "" || e != api.ErrDown {
		t.Errorf("Read: %q, %v", s, e)
	}
	if !d.Down() || len(d.Names()) != 0 || d.Used() != 0 {
		t.Errorf("down: %v, %q, %d", d.Down(), d.Names(), d.Used())
	}
	counts(t, "down", d, 3, 0)
	d.Fail(9, 9)
	d.Fail(-1, 9)
	if !d.Up() || d.Up() || d.Down() {
		t.Errorf("Up told another thing than whether it was down")
	}
	holds(t, "up again", d, files)
	counts(t, "up again", d, 3, 0)
	ok(t, "Append", d.Append("b", "!"))
	counts(t, "up again", d, 4, 1)
}

// Promise 4.2: of a nil disk.
func TestNil(t *testing.T) {
	var d *disk.Disk
	for range 2 {
		for _, name := range []string{"a", "", "A"} {
			for what, e := range every(d, name) {
				is(t, what, e, api.ErrDown)
			}
		}
		is(t, "Sync", d.Sync(), api.ErrDown)
		if !d.Down() || d.Up() || d.Clone() != nil || len(d.Names()) != 0 || d.Used() != 0 {
			t.Errorf("a nil disk: %v, %q, %d", d.Down(), d.Names(), d.Used())
		}
		counts(t, "nil", d, 0, 0)
		d.Fail(1, 1)
		d.Plan([]api.Fall{{}})
		d.Room(1)
	}
}

// Rule R1: a disk that no call made is one without files.
func TestZero(t *testing.T) {
	holds(t, "New", disk.New(), nil)
	var d, other disk.Disk
	holds(t, "no call made it", &d, nil)
	counts(t, "no call made it", &d, 0, 0)
	for _, e := range []api.Errno{d.Remove("a"), d.Move("a", "b"), d.Cut("a", 0)} {
		is(t, "a file that is not there", e, api.ErrNone)
	}
	ok(t, "Sync", d.Sync())
	if c := d.Clone(); c == nil || c.Append("a", "x") != api.OK {
		t.Errorf("its clone is no disk")
	}
	ok(t, "Append", d.Append("a", "x"))
	ok(t, "Sync", d.Sync())
	holds(t, "no call made it", &d, map[string]string{"a": "x"})
	again(t, &other, 1, 1)
	holds(t, "no call made it", &other, nil)
	ok(t, "Write", other.Write("a", "x"))
	again(t, &other, 1, 1)
	holds(t, "no call made it", &other, map[string]string{"a": "x"})
}

// Promise 4.1: room that is short, and bytes that need none.
func TestRoom(t *testing.T) {
	d := made(t, map[string]string{"a": "12", "b": "345"})
	d.Room(6)
	is(t, "Append", d.Append("a", "xy"), api.ErrFull)
	is(t, "Append to no file", d.Append("c", "xy"), api.ErrFull)
	is(t, "Write", d.Write("a", "1234"), api.ErrFull)
	is(t, "Write of a new one", d.Write("c", "12"), api.ErrFull)
	holds(t, "full", d, map[string]string{"a": "12", "b": "345"})
	counts(t, "full", d, 2, 0)
	ok(t, "Append", d.Append("a", "x"))
	is(t, "Append", d.Append("a", "y"), api.ErrFull)
	ok(t, "Append of nothing", d.Append("a", ""))
	ok(t, "Append of nothing to no file", d.Append("c", ""))
	ok(t, "Write of as much", d.Write("a", "abc"))
	ok(t, "Write of nothing", d.Write("d", ""))
	ok(t, "Write of less", d.Write("a", "a"))
	ok(t, "Write of more", d.Write("a", "abc"))
	is(t, "Write of too much", d.Write("a", "abcd"), api.ErrFull)
	ok(t, "Move", d.Move("a", "e"))
	ok(t, "Move onto another", d.Move("b", "e"))
	ok(t, "Append", d.Append("c", "xyz"))
	is(t, "Append", d.Append("c", "!"), api.ErrFull)
	ok(t, "Cut", d.Cut("c", 2))
	ok(t, "Append", d.Append("c", "!"))
	ok(t, "Remove", d.Remove("e"))
	ok(t, "Append", d.Append("c", "123"))
	is(t, "Append", d.Append("c", "4"), api.ErrFull)
	holds(t, "full", d, map[string]string{"c": "xy!123", "d": ""})
}

// Promise 4.2: room that is set anew, below what there is, to none, to any.
func TestRoomAnew(t *testing.T) {
	d := made(t, map[string]string{"a": "12345"})
	for _, n := range []int{0, 1, 4, 5} {
		d.Room(n)
		is(t, "Append", d.Append("a", "6"), api.ErrFull)
		is(t, "Write", d.Write("a", "123456"), api.ErrFull)
		is(t, "Write of a new one", d.Write("b", "1"), api.ErrFull)
		ok(t, "Write of as much", d.Write("a", "54321"))
		ok(t, "Append of nothing", d.Append("a", ""))
	}
	d.Room(3)
	ok(t, "Write of less, with more than there is room for", d.Write("a", "1234"))
	ok(t, "Cut, with more than there is room for", d.Cut("a", 3))
	is(t, "Append", d.Append("a", "6"), api.ErrFull)
	for _, n := range []int{-1, math.MinInt, math.MaxInt, 4} {
		d.Room(0)
		is(t, "Append", d.Append("a", "6"), api.ErrFull)
		d.Room(n)
		ok(t, "Append", d.Append("a", "6"))
		ok(t, "Cut", d.Cut("a", 3))
	}
	d.Room(2)
	d.Fail(0, 0)
	d.Room(6)
	d.Up()
	holds(t, "behind the power", d, map[string]string{"a": "12345"})
	is(t, "Append", d.Append("a", "67"), api.ErrFull)
	ok(t, "Append", d.Append("a", "6"))
}

// Promise 4.2: Names rise by bytes.
func TestNamesRise(t *testing.T) {
	d := disk.New()
	for _, name := range []string{"b", "a.b", "ab", "a", "a-b", "0", "z9", "z", ".", "-", "aa"} {
		ok(t, "Append", d.Append(name, ""))
	}
	if want := []string{"-", ".", "0", "a", "a-b", "a.b", "aa", "ab", "b", "z", "z9"}; !slices.Equal(d.Names(), want) {
		t.Errorf("Names: %q", d.Names())
	}
}

// Rule R3: what is answered is nobody else's, and what is handed in is not kept.
func TestSharesNothing(t *testing.T) {
	d := disk.New()
	name, s := strings.Clone("abc"), strings.Clone("some bytes")
	ok(t, "Append", d.Append(name, s))
	l, other := d.Names(), d.Names()
	for _, n := range []string{name, other[0]} {
		if unsafe.StringData(l[0]) == unsafe.StringData(n) {
			t.Errorf("a name is one memory with another")
		}
	}
	l[0] = "x"
	holds(t, "a list of names was changed", d, map[string]string{"abc": s})
	one, _ := d.Read(name)
	two, _ := d.Read(name)
	if unsafe.StringData(one) == unsafe.StringData(two) || unsafe.StringData(one) == unsafe.StringData(s) {
		t.Errorf("what is read is one memory with another")
	}
	falls := []api.Fall{{At: 2}}
	d.Plan(falls)
	falls[0].At = 1
	ok(t, "a change at which a list was changed to fall", d.Append("abc", "x"))
	is(t, "a change at which a fall was planned", d.Append("abc", "x"), api.ErrDown)
}
