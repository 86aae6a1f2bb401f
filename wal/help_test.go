package wal_test

import (
	"maps"
	"slices"
	"strings"
	"testing"

	"stowage/api"
	"stowage/disk"
	"stowage/frame"
	"stowage/octet"
	"stowage/wal"
)

// base is a base's index and term.
type base struct{ index, term int }

// told is all that a log tells.
type told struct {
	term, vote int
	base       base
	entries    []api.Entry
}

func (a told) same(b told) bool {
	return a.term == b.term && a.vote == b.vote && a.base == b.base && slices.Equal(a.entries, b.entries)
}

// end is the index and the term of the last entry, or the base.
func (a told) end() base {
	n := len(a.entries)
	if n == 0 {
		return a.base
	}
	return base{a.base.index + n, a.entries[n-1].Term}
}

// files are the bytes of files by their names.
type files = map[string]string

func ok(t *testing.T, what string, e api.Errno) {
	t.Helper()
	is(t, what, e, api.OK)
}

func is(t *testing.T, what string, e, want api.Errno) {
	t.Helper()
	if e != want {
		t.Errorf("%s: %v, not %v", what, e, want)
	}
}

// opened is the log of a disk that has one.
func opened(t *testing.T, d *disk.Disk) *wal.Log {
	t.Helper()
	l, e := wal.Open(d)
	if e != api.OK || l == nil {
		t.Fatalf("Open: %v, %v", l, e)
	}
	return l
}

// made is a disk on which all of this was written and made sure.
func made(t *testing.T, all files) *disk.Disk {
	t.Helper()
	d := disk.New()
	for _, name := range slices.Sorted(maps.Keys(all)) {
		ok(t, "Write", d.Write(name, all[name]))
	}
	ok(t, "Sync", d.Sync())
	return d
}

// on is all files of a disk.
func on(d *disk.Disk) files {
	all := files{}
	for _, name := range d.Names() {
		all[name], _ = d.Read(name)
	}
	return all
}

// holds asks that a disk has just these files.
func holds(t *testing.T, what string, d *disk.Disk, want files) {
	t.Helper()
	got := on(d)
	if maps.Equal(got, want) {
		return
	}
	t.Errorf("%s: the files %q, not %q", what, slices.Sorted(maps.Keys(got)), slices.Sorted(maps.Keys(want)))
	for name := range want {
		if got[name] != want[name] {
			t.Errorf("%s: %s is %.80q, not %.80q", what, name, got[name], want[name])
		}
	}
}

// framed is a body's frame.
func framed(body string) string {
	s, e := frame.Frame(body)
	if e != api.OK {
		panic(e)
	}
	return s
}

// numbers are the bytes of numbers.
func numbers(l ...int) string {
	s := ""
	for _, n := range l {
		s += octet.Number(uint64(n))
	}
	return s
}

// baseText is the frame of a base.
func baseText(index, term int) string { return framed(numbers(index, term)) }

// entriesText are the frames of entries.
func entriesText(l ...api.Entry) string {
	s := ""
	for _, entry := range l {
		s += framed(numbers(entry.Term, entry.Kind) + octet.Text(entry.Data))
	}
	return s
}

// segmentText is a segment's file.
func segmentText(index, term int, l ...api.Entry) string {
	return baseText(index, term) + entriesText(l...)
}

// hardText is the file of a term and a vote.
func hardText(term, vote int) string { return framed(numbers(term, vote+1)) }

// some are n entries of a term, unlike one another.
func some(term, n int) []api.Entry {
	var l []api.Entry
	for i := range n {
		l = append(l, api.Entry{Term: term, Kind: i % 256, Data: strings.Repeat(string([]byte{byte('a' + i%26)}), i)})
	}
	return l
}

// tell asks a log for all that it tells, and asks that its calls say the same.
func tell(t *testing.T, what string, l *wal.Log) told {
	t.Helper()
	var a told
	a.term, a.vote = l.Hard()
	a.base.index, a.base.term = l.Base()
	a.entries = l.From(a.base.index)
	index, term := l.End()
	if a.end() != (base{index, term}) {
		t.Errorf("%s: End: %d, %d; the entries %v from %v on", what, index, term, a.entries, a.base)
	}
	for i := -2; i <= len(a.entries)+2; i++ {
		entry, is := l.Entry(a.base.index + i)
		if in := i >= 1 && i <= len(a.entries); is != in || in && entry != a.entries[i-1] || !in && entry != (api.Entry{}) {
			t.Errorf("%s: Entry(%d): %v, %v", what, a.base.index+i, entry, is)
		}
		rest := a.entries[min(max(i-1, 0), len(a.entries)):]
		if got := l.From(a.base.index + i); !slices.Equal(got, rest) {
			t.Errorf("%s: From(%d): %v, not %v", what, a.base.index+i, got, rest)
		}
	}
	return a
}

// tells asks that a log tells just this.
func tells(t *testing.T, what string, l *wal.Log, want told) {
	t.Helper()
	if got := tell(t, what, l); !got.same(want) {
		t.Errorf("%s: %v, not %v", what, got, want)
	}
}

// steady asks that opening again finds the same, and has nothing to mend.
func steady(t *testing.T, what string, d *disk.Disk, want told) {
	t.Helper()
	changes, waits := d.Changes(), d.Waits()
	all := on(d)
	l, e := wal.Open(d)
	if e != api.OK {
		t.Errorf("%s: Open: %v", what, e)
		return
	}
	tells(t, what+", opened again", l, want)
	holds(t, what+", opened again", d, all)
	if d.Changes() != changes || d.Waits() != waits {
		t.Errorf("%s: opening again changed something", what)
	}
}

// trace is the changes of what is done to a disk, one by one, and where they are made sure. It is found by letting the power fail at each of them.
func trace(t *testing.T, d *disk.Disk, do func(d *disk.Disk)) []string {
	t.Helper()
	var steps []string
	first := d.Changes()
	before := on(d)
	for k := 0; ; k++ {
		all := struck(d, do, api.Fall{At: first + k, Keep: 1 << 30})
		if all == nil {
			break
		}
		sure := struck(d, do, api.Fall{At: first + k})
		if k > 0 && maps.Equal(sure, before) {
			steps = append(steps, "sync")
		}
		steps = append(steps, step(before, all))
		before = all
	}
	end := d.Clone()
	end.Append("other", "")
	do(end)
	if end.Waits() == 0 {
		steps = append(steps, "sync")
	}
	return steps
}

// struck is the files behind a fall; nil, if it did not strike.
func struck(d *disk.Disk, do func(d *disk.Disk), fall api.Fall) files {
	c := d.Clone()
	c.Plan([]api.Fall{fall})
	do(c)
	if !c.Up() {
		return nil
	}
	return on(c)
}

// step is the change that makes files into others.
func step(from, to files) string {
	var l []string
	for name, s := range to {
		old, was := from[name]
		switch {
		case was && old == s:
		case !was:
			l = append(l, "make "+name)
		case strings.HasPrefix(s, old):
			l = append(l, "append "+name)
		case strings.HasPrefix(old, s):
			l = append(l, "cut "+name)
		default:
			l = append(l, "write "+name)
		}
	}
	for name := range from {
		if _, is := to[name]; !is {
			l = append(l, "remove "+name)
		}
	}
	slices.Sort(l)
	return strings.Join(l, ", ")
}

// does asks for the changes of what is done to a disk, in their order.
func does(t *testing.T, what string, d *disk.Disk, do func(d *disk.Disk), want ...string) {
	t.Helper()
	if got := trace(t, d, do); !slices.Equal(got, want) {
		t.Errorf("%s: %q, not %q", what, got, want)
	}
}

// logDoes asks for the changes of what is done to the log of a disk, those of opening it ahead.
func logDoes(t *testing.T, what string, d *disk.Disk, do func(l *wal.Log) api.Errno, want ...string) {
	t.Helper()
	does(t, what, d, func(d *disk.Disk) {
		if l, e := wal.Open(d); e == api.OK {
			do(l)
		}
	}, want...)
}

// laid is a disk with a log of these entries, from 1 on.
func laid(t *testing.T, l ...api.Entry) (*disk.Disk, *wal.Log) {
	t.Helper()
	d := disk.New()
	log := opened(t, d)
	ok(t, "Append", log.Append(1, l))
	return d, log
}
