package shot_test

import (
	"fmt"
	"maps"
	"math/rand"
	"slices"
	"testing"
	"unsafe"

	"stowage/api"
	"stowage/disk"
	"stowage/frame"
	"stowage/shot"
)

// files are the bytes of files by their names.
type files = map[string]string

// made is a disk on which all of this was written and made sure.
func made(t *testing.T, all files) *disk.Disk {
	t.Helper()
	d := disk.New()
	for _, name := range slices.Sorted(maps.Keys(all)) {
		ok(t, "Write", d.Write(name, all[name]))
	}
	ok(t, "Sync", d.Sync())
	return d
}

// holds asks that just these files are on a disk.
func holds(t *testing.T, what string, d *disk.Disk, want files) {
	t.Helper()
	all := files{}
	for _, name := range d.Names() {
		all[name], _ = d.Read(name)
	}
	if !maps.Equal(all, want) {
		t.Errorf("%s: the files %.300q, not %.300q", what, all, want)
	}
}

// fileOf is the file of a snapshot.
func fileOf(s api.Shot) string {
	return framed(textOf(s))
}

func framed(body string) string {
	one, e := frame.Frame(body)
	if e != api.OK {
		panic(e)
	}
	return one
}

// loads asks that a snapshot is loaded.
func loads(t *testing.T, what string, d *disk.Disk, want api.Shot) {
	t.Helper()
	if s, there, e := shot.Load(d); !same(s, want) || !there || e != api.OK {
		t.Errorf("%s: Load: %s, %v, %v, not %s", what, told(s), there, e, told(want))
	}
}

// lacks asks that none is loaded, for a reason (OK: there is none).
func lacks(t *testing.T, what string, d *disk.Disk, why api.Errno) {
	t.Helper()
	if s, there, e := shot.Load(d); !none(s) || there || e != why {
		t.Errorf("%s: Load: %s, %v, %v, not %v", what, told(s), there, e, why)
	}
}

// Promise 7.2: what is saved is loaded, surely, each in the place of the one ahead; other files are let be.
func TestSave(t *testing.T) {
	d := made(t, files{"w.1": "log", "e.new": "x"})
	lacks(t, "an empty disk", d, api.OK)
	lacks(t, "an empty disk", disk.New(), api.OK)
	for _, s := range good() {
		ok(t, told(s), shot.Save(d, s))
		loads(t, told(s), d, s)
		d.Fail(0, 0)
		d.Up()
		loads(t, told(s)+", behind a loss of power", d, s)
		holds(t, told(s), d, files{"w.1": "log", "e.new": "x", "snap": fileOf(s)})
	}
}

// Promise 7.2: errors, in their order, which change nothing.
func TestSaveWrong(t *testing.T) {
	fine := good()[1]
	is(t, "Save(nil)", shot.Save(nil, fine), api.ErrArg)
	lacks(t, "Load(nil)", nil, api.ErrArg)
	d := made(t, files{"snap": fileOf(fine)})
	changes := d.Changes()
	for _, w := range bad() {
		is(t, told(w.s), shot.Save(d, w.s), w.e)
		is(t, told(w.s), shot.Save(nil, w.s), api.ErrArg)
	}
	if d.Changes() != changes {
		t.Errorf("what may not be: a change")
	}
	d.Fail(0, 0)
	is(t, "down", shot.Save(d, fine), api.ErrDown)
	for _, w := range bad() {
		is(t, told(w.s)+", down", shot.Save(d, w.s), w.e)
	}
	lacks(t, "down", d, api.ErrDown)
	lacks(t, "down without a file", fallen(), api.ErrDown)
	d.Up()
	loads(t, "up", d, fine)
}

// fallen is a disk with nothing, which is down.
func fallen() *disk.Disk {
	d := disk.New()
	d.Fail(0, 0)
	return d
}

// Promise 7.2: snap.new that was left goes, surely, whatever snap is; without it nothing is made sure.
func TestSpareGoes(t *testing.T) {
	fine := good()[1]
	for _, spare := range []string{"", "x", fileOf(good()[2])} {
		d := made(t, files{"snap": fileOf(fine), "snap.new": spare})
		loads(t, "snap.new", d, fine)
		d.Fail(0, 0)
		d.Up()
		holds(t, "snap.new", d, files{"snap": fileOf(fine)})
		d = made(t, files{"snap.new": spare})
		lacks(t, "snap.new alone", d, api.OK)
		d.Fail(0, 0)
		d.Up()
		holds(t, "snap.new alone", d, files{})
		d = made(t, files{"snap": "wrong", "snap.new": spare})
		lacks(t, "snap.new, and snap is wrong", d, api.ErrCorrupt)
		holds(t, "snap.new, and snap is wrong", d, files{"snap": "wrong"})
		d = made(t, files{"snap.new": spare})
		ok(t, "Save", shot.Save(d, fine))
		holds(t, "Save over snap.new", d, files{"snap": fileOf(fine)})
	}
	d := made(t, files{"snap": fileOf(fine)})
	ok(t, "Append", d.Append("other", "x"))
	loads(t, "no snap.new", d, fine)
	if d.Waits() != 1 {
		t.Errorf("no snap.new: %d wait", d.Waits())
	}
}

// Promise 7.2: a snap that is torn, changed, two frames, or no snapshot's text.
func TestCorrupt(t *testing.T) {
	fine := good()[3]
	file := fileOf(fine)
	wrong := []string{"", "x", file + "x", file + file, file + framed(""), framed("") + file, "x" + file, framed(""), framed("x"), framed(textOf(fine) + "x"), framed(textOf(fine)[2:]), textOf(fine), framed(file)}
	for i := range len(file) {
		wrong = append(wrong, file[:i], file[i+1:], file[:i]+string([]byte{file[i] ^ 1})+file[i+1:], file[:i]+"x"+file[i:])
	}
	for _, w := range bad() {
		wrong = append(wrong, framed(textOf(w.s)))
	}
	for _, one := range wrong {
		d := made(t, files{"snap": one})
		what := fmt.Sprintf("a file of %d bytes, %.20q", len(one), one)
		lacks(t, what, d, api.ErrCorrupt)
		lacks(t, what+", again", d, api.ErrCorrupt)
		holds(t, what, d, files{"snap": one})
		ok(t, what, shot.Save(d, fine))
		loads(t, what, d, fine)
	}
}

// Promise 7.2: room that is short leaves the one that was.
func TestFull(t *testing.T) {
	was, next := good()[1], good()[3]
	for _, left := range []files{{}, {"snap.new": "left"}} {
		d := made(t, left)
		ok(t, "Save", shot.Save(d, was))
		ok(t, "Write", d.Write("other", "some"))
		need := len(fileOf(next))
		for _, room := range []int{0, 1, need - 1} {
			d.Room(d.Used() + room)
			is(t, "Save without room", shot.Save(d, next), api.ErrFull)
			loads(t, "without room", d, was)
			holds(t, "without room", d, files{"snap": fileOf(was), "other": "some"})
		}
		d.Room(d.Used() + need)
		ok(t, "Save with room", shot.Save(d, next))
		loads(t, "with room", d, next)
	}
}

// struck are the files behind a fall at the change k of what is done, and whether it struck.
func struck(t *testing.T, d *disk.Disk, k, keep, torn int, do func(d *disk.Disk) api.Errno) (*disk.Disk, bool) {
	t.Helper()
	one := d.Clone()
	one.Plan([]api.Fall{{At: d.Changes() + k, Keep: keep, Torn: torn}})
	e := do(one)
	fell := one.Up()
	if fell {
		is(t, fmt.Sprint("the power fails at the change ", k), e, api.ErrDown)
	} else {
		ok(t, "the power stays", e)
	}
	one.Plan(nil)
	return one, fell
}

// Promises 7.2 and 7.4: a loss of power at each change of Save: snap.new is written, made sure, and moved.
func TestPowerWithinSave(t *testing.T) {
	next := good()[3]
	file := fileOf(next)
	for _, was := range []files{{}, {"snap": fileOf(good()[1])}, {"snap": fileOf(good()[5]), "other": "x"}, {"snap": fileOf(good()[1]), "snap.new": "left"}} {
		d := made(t, was)
		for k := range 2 {
			for keep := range k + 2 {
				for _, torn := range []int{0, 1, 8, 9, len(file) - 1, len(file), 1 << 30} {
					what := fmt.Sprintf("change %d, keep %d, torn %d", k, keep, torn)
					one, fell := struck(t, d, k, keep, torn, func(d *disk.Disk) api.Errno { return shot.Save(d, next) })
					if !fell {
						t.Fatalf("%s: it did not fall", what)
					}
					want := maps.Clone(was)
					switch {
					case k == 0 && keep == 0 && torn > 0:
						want["snap.new"] = file[:min(torn, len(file))]
					case k == 0 && keep == 1, k == 1 && keep == 0:
						want["snap.new"] = file
					case k == 1:
						want["snap"] = file
						delete(want, "snap.new")
					}
					holds(t, what, one, want)
					delete(want, "snap.new")
					reloads(t, what, one, want)
					ok(t, what, shot.Save(one, next))
					loads(t, what+", saved again", one, next)
				}
			}
		}
		if _, fell := struck(t, d, 2, 0, 0, func(d *disk.Disk) api.Errno { return shot.Save(d, next) }); fell {
			t.Errorf("Save: a third change")
		}
	}
}

// reloads asks that a disk is loaded with what its file snap is, twice.
func reloads(t *testing.T, what string, d *disk.Disk, want files) {
	t.Helper()
	for range 2 {
		s, there, e := shot.Load(d)
		file, is := want["snap"]
		if e != api.OK || there != is || there && fileOf(s) != file {
			t.Errorf("%s: Load: %s, %v, %v", what, told(s), there, e)
		}
		holds(t, what+", loaded", d, want)
	}
}

// Promise 7.2: a loss of power at the one change of Load.
func TestPowerWithinLoad(t *testing.T) {
	load := func(d *disk.Disk) api.Errno {
		s, there, e := shot.Load(d)
		if e != api.OK && (!none(s) || there) {
			t.Errorf("Load: %s, %v, %v", told(s), there, e)
		}
		return e
	}
	for _, was := range []files{{}, {"snap": fileOf(good()[1])}} {
		all := maps.Clone(was)
		all["snap.new"] = "left"
		d := made(t, all)
		for keep := range 2 {
			for _, torn := range []int{0, 1, 9} {
				what := fmt.Sprintf("keep %d, torn %d", keep, torn)
				one, fell := struck(t, d, 0, keep, torn, load)
				want := all
				if keep == 1 {
					want = was
				}
				if !fell {
					t.Errorf("%s: it did not fall", what)
				}
				holds(t, what, one, want)
				reloads(t, what, one, was)
			}
		}
		if _, fell := struck(t, d, 1, 0, 0, load); fell {
			t.Errorf("Load: a second change")
		}
		if _, fell := struck(t, made(t, was), 0, 0, 0, load); fell {
			t.Errorf("Load without snap.new: a change")
		}
	}
}

// Promise 7.4: any savings, with losses of power and without room: the one that was, or the one that was being saved.
func TestAnySavings(t *testing.T) {
	for seed := range 60 {
		r := rand.New(rand.NewSource(int64(seed)))
		d := disk.New()
		var was api.Shot
		there := false
		for n := range 60 {
			what := fmt.Sprintf("seed %d, call %d", seed, n)
			if d.Plan(nil); r.Intn(3) == 0 {
				d.Plan([]api.Fall{{At: d.Changes() + r.Intn(3), Keep: r.Intn(3), Torn: r.Intn(400)}})
			}
			if d.Room(-1); r.Intn(5) == 0 {
				d.Room(d.Used() + r.Intn(300))
			}
			next := api.Shot{Index: n, Term: seed, Members: []int{r.Intn(7)}, Data: bytesOf(r.Intn(300))}
			e := shot.Save(d, next)
			d.Up()
			d.Plan(nil)
			s, is, le := shot.Load(d)
			asWas := is == there && same(s, was)
			asNext := is && same(s, next)
			if le != api.OK || e == api.OK && !asNext || e == api.ErrFull && !asWas || e == api.ErrDown && !asWas && !asNext {
				t.Fatalf("%s: %v, then %s, %v, %v", what, e, told(s), is, le)
			}
			was, there = s, is
		}
	}
}

// Rule R3: a snapshot that is loaded is nobody else's memory.
func TestLoadSharesNothing(t *testing.T) {
	d := disk.New()
	data := "some data"
	members := []int{1, 2}
	ok(t, "Save", shot.Save(d, api.Shot{Members: members, Data: data}))
	members[0] = 5
	one, _, _ := shot.Load(d)
	two, _, _ := shot.Load(d)
	one.Members[1] = 6
	if !slices.Equal(two.Members, []int{1, 2}) || unsafe.StringData(one.Data) == unsafe.StringData(two.Data) {
		t.Errorf("Load: an answer is one memory with another")
	}
}
