package extent_test

import (
	"fmt"
	"maps"
	"math/rand"
	"slices"
	"testing"

	"stowage/api"
	"stowage/disk"
	"stowage/extent"
)

// Promises 6.2 and 6.4: a disk that is down, and one that came up again.
func TestDown(t *testing.T) {
	d := disk.New()
	x := opened(t, d)
	puts(t, "a", x, "a")
	d.Fail(0, 0)
	for _, s := range []string{"a", "b"} {
		if id, e := x.Put(s); id != "" || e != api.ErrDown {
			t.Errorf("Put: %q, %v", id, e)
		}
		lacks(t, "down", x, idOf(s), api.ErrDown)
	}
	if id, e := x.Put(""); id != "" || e != api.ErrArg {
		t.Errorf("Put of nothing: %q, %v", id, e)
	}
	for _, ids := range [][]string{nil, {idOf("a")}} {
		if n, e := x.Keep(ids); n != 0 || e != api.ErrDown {
			t.Errorf("Keep: %d, %v", n, e)
		}
	}
	d.Up()
	has(t, "up", x, "a")
	puts(t, "up", x, "b")
	holds(t, "up", d, stored("a", "b"))
}

// struck are the files behind a fall at the change k of what is done, and whether it struck.
func struck(t *testing.T, d *disk.Disk, k, keep, torn int, do func(d *disk.Disk) api.Errno) (*disk.Disk, bool) {
	t.Helper()
	one := d.Clone()
	one.Plan([]api.Fall{{At: d.Changes() + k, Keep: keep, Torn: torn}})
	e := do(one)
	fell := one.Up()
	if fell {
		is(t, fmt.Sprint("the power fails at the change ", k), e, api.ErrDown)
	} else {
		ok(t, "the power stays", e)
	}
	one.Plan(nil)
	return one, fell
}

// eachFall lets the power fail at each change of what is done from the first one on, in many ways, and asks how many there are.
func eachFall(t *testing.T, d *disk.Disk, first, changes int, do func(d *disk.Disk) api.Errno, then func(what string, d *disk.Disk, k, keep, torn int)) {
	t.Helper()
	for k := range changes {
		for keep := range k + 2 {
			for _, torn := range []int{0, 1, 8, 9, 520, 521, 700, 1 << 30} {
				one, fell := struck(t, d, first+k, keep, torn, do)
				if !fell {
					t.Fatalf("there is no change %d", k)
				}
				then(fmt.Sprintf("change %d, keep %d, torn %d", k, keep, torn), one, k, keep, torn)
			}
		}
	}
	if _, fell := struck(t, d, first+changes, 0, 0, do); fell {
		t.Errorf("there is a change %d", changes)
	}
}

// Promises 6.2 and 6.4: a loss of power at each change of Put: e.new is written, made sure, and moved.
func TestPowerWithinPut(t *testing.T) {
	s := bytesOf(700)
	file := fileOf(s)
	was := stored("a", "b")
	for _, old := range []files{{}, {"e." + idOf(s): file + "x"}} {
		put := func(d *disk.Disk) api.Errno {
			x := opened(t, d)
			// Open would have taken away what is not right, so it comes behind it.
			for name, wrong := range old {
				ok(t, "Write", d.Write(name, wrong))
				ok(t, "Sync", d.Sync())
			}
			_, e := x.Put(s)
			return e
		}
		eachFall(t, made(t, was), len(old), 2, put, func(what string, d *disk.Disk, k, keep, torn int) {
			want := with(was, old)
			switch {
			case k == 0 && keep == 0 && torn > 0:
				want = with(want, files{"e.new": file[:min(torn, len(file))]})
			case k == 0 && keep == 1, k == 1 && keep == 0:
				want = with(want, files{"e.new": file})
			case k == 1:
				want = with(was, stored(s))
			}
			holds(t, what, d, want)
			mended(t, what, d, was, s)
		})
	}
}

// mended asks what opening makes of a disk behind a loss of power: all that was there, and s or nothing of it.
func mended(t *testing.T, what string, d *disk.Disk, was files, s string) {
	t.Helper()
	x, _, e := extent.Open(d)
	ok(t, what, e)
	all := on(d)
	delete(all, "e."+idOf(s))
	if !maps.Equal(all, was) {
		t.Errorf("%s: %d files", what, len(all))
	}
	if x.Has(idOf(s)) {
		has(t, what, x, s)
	} else {
		lacks(t, what, x, idOf(s), api.ErrNone)
	}
	puts(t, what+", put again", x, s)
	d.Fail(0, 0)
	d.Up()
	holds(t, what+", put again", d, with(was, stored(s)))
}

// Promise 6.2: a loss of power at each change of Keep: files go by their names.
func TestPowerWithinKeep(t *testing.T) {
	var l, ids []string
	for i := range 8 {
		l = append(l, fmt.Sprint(i))
		ids = append(ids, idOf(l[i]))
	}
	kept, goes := ids[:2], sorted(ids[2:]...)
	eachFall(t, made(t, stored(l...)), 0, 6, func(d *disk.Disk) api.Errno {
		n, e := opened(t, d).Keep(kept)
		if e != api.OK && n != 0 {
			t.Errorf("Keep: %d, %v", n, e)
		}
		return e
	}, func(what string, d *disk.Disk, k, keep, torn int) {
		want := stored(l...)
		for _, id := range goes[:keep] {
			delete(want, "e."+id)
		}
		holds(t, what, d, want)
		opened(t, d)
	})
}

// Promise 6.1: a loss of power at each change of Open: e.new goes, then files by their names.
func TestPowerWithinOpen(t *testing.T) {
	all := with(stored("a", "b"), files{"e.new": "x"})
	var goes []string
	for i := range 4 {
		name := "e." + idOf(fmt.Sprint(i))
		all[name] = "wrong"
		goes = append(goes, name)
	}
	goes = append([]string{"e.new"}, sorted(goes...)...)
	eachFall(t, made(t, all), 0, 5, func(d *disk.Disk) api.Errno {
		x, n, e := extent.Open(d)
		if e != api.OK && (x != nil || n != 0) {
			t.Errorf("Open: %v, %d, %v", x, n, e)
		}
		return e
	}, func(what string, d *disk.Disk, k, keep, torn int) {
		want := maps.Clone(all)
		for _, name := range goes[:keep] {
			delete(want, name)
		}
		holds(t, what, d, want)
		_, n, e := extent.Open(d)
		if left := len(goes) - max(keep, 1); n != left || e != api.OK {
			t.Errorf("%s: Open: %d, %v", what, n, e)
		}
		holds(t, what, d, stored("a", "b"))
	})
}

// Promises 6.1 to 6.4: any calls, held against a plain set of extents, with losses of power and without room.
func TestAnyCalls(t *testing.T) {
	for seed := range 40 {
		r := rand.New(rand.NewSource(int64(seed)))
		d := disk.New()
		x := opened(t, d)
		sure := map[string]string{} // by their ids: what was put, and was kept
		for n := range 100 {
			what := fmt.Sprintf("seed %d, call %d", seed, n)
			if d.Plan(nil); r.Intn(4) == 0 {
				d.Plan([]api.Fall{{At: d.Changes() + r.Intn(3), Keep: r.Intn(3), Torn: r.Intn(1000)}})
			}
			if d.Room(-1); r.Intn(6) == 0 {
				d.Room(d.Used() + r.Intn(1000))
			}
			var e api.Errno
			if r.Intn(8) == 0 {
				e = anyKeep(t, what, r, x, sure)
			} else {
				e = anyPut(r, x, sure)
			}
			if e == api.ErrDown {
				d.Up()
				d.Plan(nil)
				if r.Intn(2) == 0 {
					var went int
					x, went, e = extent.Open(d)
					if went != 0 || e != api.OK {
						t.Fatalf("%s: Open: %d, %v", what, went, e)
					}
				}
			} else if e != api.OK && e != api.ErrFull {
				t.Errorf("%s: %v", what, e)
			}
			for _, s := range sure {
				has(t, what, x, s)
			}
			if d.Waits() != 0 {
				t.Errorf("%s: %d wait", what, d.Waits())
			}
		}
	}
}

// anyPut puts some extent; what was put is sure.
func anyPut(r *rand.Rand, x *extent.Store, sure map[string]string) api.Errno {
	s := bytesOf(1 + r.Intn(30)*40)
	id, e := x.Put(s)
	if e == api.OK {
		sure[id] = s
	}
	return e
}

// anyKeep keeps some of what is sure; if the power fails within, the others may be there or not.
func anyKeep(t *testing.T, what string, r *rand.Rand, x *extent.Store, sure map[string]string) api.Errno {
	var ids []string
	for _, id := range slices.Sorted(maps.Keys(sure)) {
		if r.Intn(3) == 0 {
			delete(sure, id)
		} else {
			ids = append(ids, id)
		}
	}
	were := len(x.All())
	n, e := x.Keep(ids)
	if e == api.OK && (n != were-len(ids) || !slices.Equal(x.All(), ids)) {
		t.Errorf("%s: Keep: %d went of %d", what, n, were)
	}
	return e
}
