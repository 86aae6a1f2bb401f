package wal

import (
	"slices"

	"stowage/api"
	"stowage/disk"
	"stowage/whole"
)

// found is what a disk's segments say.
type found struct {
	stays []segment
	goes  []int // the numbers of those that are left out
	torn  bool  // bytes stand behind the entries of the last one that stays
}

// Open reads a log, and makes its files right.
func Open(d *disk.Disk) (*Log, api.Errno) {
	if d == nil {
		return nil, api.ErrArg
	}
	if d.Down() {
		return nil, api.ErrDown
	}
	h, e := readHard(d)
	if e != api.OK {
		return nil, e
	}
	f, e := find(d)
	if e != api.OK {
		return nil, e
	}
	l := &Log{d: d, hard: h, segments: f.stays}
	if e := l.mend(f); e != api.OK {
		return nil, e
	}
	return l, api.OK
}

// find reads a disk's segments.
func find(d *disk.Disk) (found, api.Errno) {
	var f found
	numbers := numbersOn(d)
	for i := range len(numbers) {
		s, e := d.Read(fileOf(numbers[i]))
		if e != api.OK {
			return found{}, e
		}
		g, based, e := readSegment(numbers[i], s)
		if e != api.OK {
			return found{}, e
		}
		torn := !based || g.size() < len(s)
		// Only the last one can be torn by a loss of power: the others were sure ahead of it.
		if torn && i < len(numbers)-1 {
			return found{}, api.ErrCorrupt
		}
		if !based {
			f.goes = append(f.goes, numbers[i])
			break
		}
		f.take(g)
		f.torn = torn
	}
	return f, api.OK
}

// take lays a segment behind those that stay; if it doesn't go on from there, they stay no more.
func (f *found) take(g segment) {
	if n := len(f.stays); n > 0 && !g.goesOn(f.stays[n-1]) {
		for i := range n {
			f.goes = append(f.goes, f.stays[i].number)
		}
		f.stays = nil
	}
	f.stays = append(f.stays, g)
}

// numbersOn is the numbers of a disk's segments, rising.
func numbersOn(d *disk.Disk) []int {
	var numbers []int
	for _, name := range d.Names() {
		if number, is := numberOf(name); is {
			numbers = append(numbers, number)
		}
	}
	slices.Sort(numbers) // names rise by their bytes, and w.10 stands ahead of w.9 there
	return numbers
}

// mend makes the files what was found, and surely so, if they were not.
func (l *Log) mend(f found) api.Errno {
	before := l.d.Changes()
	if e := l.mendFiles(f); e != api.OK {
		return e
	}
	if l.d.Changes() == before {
		return api.OK
	}
	return l.d.Sync()
}

// mendFiles makes the files what was found.
func (l *Log) mendFiles(f found) api.Errno {
	if e := whole.Clear(l.d, hardSpare); e != api.OK {
		return e
	}
	for i := range len(f.goes) {
		if e := l.d.Remove(fileOf(f.goes[i])); e != api.OK {
			return e
		}
	}
	if len(f.stays) == 0 {
		return l.begin(0, 0, nil)
	}
	if f.torn {
		return l.d.Cut(l.last().file(), l.last().size())
	}
	return api.OK
}
