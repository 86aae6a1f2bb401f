package whole_test

import (
	"fmt"
	"testing"

	"stowage/api"
	"stowage/disk"
	"stowage/whole"
)

func is(t *testing.T, what string, e, want api.Errno) {
	t.Helper()
	if e != want {
		t.Errorf("%s: %v, not %v", what, e, want)
	}
}

// reads asks for a file's bytes.
func reads(t *testing.T, what string, d *disk.Disk, name, want string) {
	t.Helper()
	if s, e := d.Read(name); s != want || e != api.OK {
		t.Errorf("%s: %s is %q, %v", what, name, s, e)
	}
}

// A file is laid, surely, and laid anew; the spare one is gone.
func TestLay(t *testing.T) {
	d := disk.New()
	for _, s := range []string{"one", "another", ""} {
		is(t, "Lay", whole.Lay(d, "a.new", "a", s), api.OK)
		d.Fail(0, 0)
		d.Up()
		reads(t, "Lay", d, "a", s)
		if l := d.Names(); len(l) != 1 {
			t.Errorf("Lay: the files %q", l)
		}
	}
}

// Wherever the power fails the file is as it was, or as it is to be.
func TestLayWhole(t *testing.T) {
	for k := range 3 {
		for keep := range 3 {
			for torn := range 8 {
				what := fmt.Sprintf("the power fails at %d with %d and %d", k, keep, torn)
				d := disk.New()
				is(t, what, whole.Lay(d, "a.new", "a", "was"), api.OK)
				d.Plan([]api.Fall{{At: d.Changes() + k, Keep: keep, Torn: torn}})
				e := whole.Lay(d, "a.new", "a", "is now")
				fell := d.Up()
				s, _ := d.Read("a")
				switch {
				case fell != (k < 2), fell != (e == api.ErrDown), !fell && s != "is now", s != "was" && s != "is now":
					t.Errorf("%s: %q, %v", what, s, e)
				}
				if k == 1 && keep == 0 {
					// It was sure ahead of being moved.
					reads(t, what, d, "a.new", "is now")
				}
				is(t, what, whole.Clear(d, "a.new"), api.OK)
				reads(t, what, d, "a", s)
			}
		}
	}
}

// Without room, or where a name may not be, nothing is laid.
func TestLayRefused(t *testing.T) {
	d := disk.New()
	is(t, "Lay", whole.Lay(d, "a.new", "a", "was"), api.OK)
	d.Room(5)
	is(t, "Lay without room", whole.Lay(d, "a.new", "a", "new"), api.ErrFull)
	is(t, "Lay", whole.Lay(d, "NEW", "a", "is"), api.ErrName)
	reads(t, "refused", d, "a", "was")
	if l := d.Names(); len(l) != 1 || d.Waits() != 0 {
		t.Errorf("refused: the files %q", l)
	}
	d.Room(-1)
	is(t, "Lay under no name", whole.Lay(d, "a.new", "A", "x"), api.ErrName)
	is(t, "Lay on no disk", whole.Lay(nil, "a.new", "a", "x"), api.ErrDown)
}

// A spare file goes, if it is there.
func TestClear(t *testing.T) {
	d := disk.New()
	is(t, "Clear of nothing", whole.Clear(d, "a.new"), api.OK)
	if d.Changes() != 0 {
		t.Errorf("Clear of nothing: a change")
	}
	is(t, "Write", d.Write("a.new", "x"), api.OK)
	is(t, "Clear", whole.Clear(d, "a.new"), api.OK)
	if l := d.Names(); len(l) != 0 || d.Changes() != 2 {
		t.Errorf("Clear: the files %q", l)
	}
	d.Fail(0, 0)
	is(t, "Clear of a disk that is down", whole.Clear(d, "a.new"), api.ErrDown)
	is(t, "Clear of no disk", whole.Clear(nil, "a.new"), api.ErrDown)
}
