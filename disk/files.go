package disk

import (
	"maps"
	"slices"
)

// The kinds of changes.
const (
	appended = iota
	written
	moved
	removed
	cut
)

// change is what one call does to the files.
type change struct {
	kind int
	name string
	to   string // of a move
	s    string // of what is appended or written
	long int    // of a cut
}

// files are bytes by names. Without a map there are none.
type files struct {
	byName map[string][]byte
	used   int
}

// set lays a file, or lays it anew.
func (f *files) set(name string, b []byte) {
	if f.byName == nil {
		f.byName = make(map[string][]byte)
	}
	f.used += len(b) - len(f.byName[name])
	f.byName[name] = b
}

// drop takes a file away, if it is there.
func (f *files) drop(name string) {
	f.used -= len(f.byName[name])
	delete(f.byName, name)
}

// apply does a change that nothing hinders.
func (f *files) apply(c change) {
	b := f.byName[c.name]
	switch c.kind {
	case appended:
		f.set(c.name, append(b, c.s...))
	case written:
		f.set(c.name, []byte(c.s))
	case moved:
		f.set(c.to, b)
		f.drop(c.name)
	case removed:
		f.drop(c.name)
	case cut:
		// No room is left behind the cut: the bytes there may be sure, and what is appended must not fall on them.
		f.set(c.name, b[:c.long:c.long])
	}
}

// tear does what a change would have done with its first torn bytes alone.
func (f *files) tear(c change, torn int) {
	if torn <= 0 || c.kind != appended && c.kind != written {
		return
	}
	c.s = c.s[:min(torn, len(c.s))]
	f.apply(c)
}

// take makes a file what it is among others.
func (f *files) take(from files, name string) {
	if b, there := from.byName[name]; there {
		f.set(name, b)
	} else {
		f.drop(name)
	}
}

// same are the same files: their names stand apart, their bytes do not.
func (f *files) same() files {
	return files{maps.Clone(f.byName), f.used}
}

// apart are the same files, with bytes of their own.
func (f *files) apart() files {
	other := f.same()
	for name, b := range other.byName {
		other.byName[name] = slices.Clone(b)
	}
	return other
}
