package wal_test

import (
	"fmt"
	"math"
	"slices"
	"strings"
	"testing"
	"unsafe"

	"stowage/api"
	"stowage/disk"
	"stowage/wal"
)

// The example of the chapter.
func TestExample(t *testing.T) {
	d := disk.New()
	l := opened(t, d)
	holds(t, "an empty disk", d, files{"w.1": baseText(0, 0)})
	tells(t, "an empty disk", l, told{vote: -1})
	nine := some(1, 9)
	ok(t, "Append", l.Append(1, nine))
	holds(t, "nine", d, files{"w.1": segmentText(0, 0, nine[:8]...), "w.2": segmentText(8, 1, nine[8])})
	one := api.Entry{Term: 2, Kind: api.EntryConf, Data: "z"}
	ok(t, "Append", l.Append(3, []api.Entry{one}))
	three := []api.Entry{nine[0], nine[1], one}
	holds(t, "one of them", d, files{"w.1": segmentText(0, 0, three...)})
	tells(t, "one of them", l, told{vote: -1, entries: three})
	ok(t, "Compact", l.Compact(2))
	holds(t, "Compact", d, files{"w.1": segmentText(0, 0, three...)})
	steady(t, "Compact", d, told{vote: -1, entries: three})
}

// Promise 5.2: what a log tells, at all indexes.
func TestTells(t *testing.T) {
	for _, at := range []base{{0, 0}, {5, 2}, {api.MaxTerm - 20, api.MaxTerm}} {
		for _, n := range []int{0, 1, 7, 8, 9, 16, 17, 20} {
			d := made(t, files{"w.3": baseText(at.index, at.term)})
			l := opened(t, d)
			ok(t, "Append", l.Append(at.index+1, some(api.MaxTerm, n)))
			want := told{vote: -1, base: at, entries: some(api.MaxTerm, n)}
			tells(t, "laid", l, want)
			steady(t, "laid", d, want)
			for _, index := range []int{math.MinInt, math.MinInt + 1, -1, at.index} {
				if _, is := l.Entry(index); is || len(l.From(index)) != n {
					t.Errorf("Entry, From(%d) of %d: %v, %d", index, n, is, len(l.From(index)))
				}
			}
			for _, index := range []int{math.MaxInt, math.MaxInt - 1, at.index + n + 1} {
				if _, is := l.Entry(index); is || len(l.From(index)) != 0 {
					t.Errorf("Entry, From(%d) of %d: %v, %d", index, n, is, len(l.From(index)))
				}
			}
		}
	}
}

// Promises 5.1 and 5.2: hard, at their bounds and beyond.
func TestSetHard(t *testing.T) {
	d := disk.New()
	l := opened(t, d)
	want := told{vote: -1}
	for _, c := range []struct {
		term, vote int
		e          api.Errno
	}{
		{0, 0, api.OK}, {1, 6, api.OK}, {api.MaxTerm, -1, api.OK}, {0, -1, api.OK}, {api.MaxTerm, 6, api.OK}, {3, 2, api.OK}, {3, 2, api.OK},
		{-1, 0, api.ErrArg}, {api.MaxTerm + 1, 0, api.ErrArg}, {0, -2, api.ErrArg}, {0, 7, api.ErrArg}, {127, 3, api.OK}, {128, 3, api.OK},
		{math.MinInt, 0, api.ErrArg}, {math.MaxInt, 0, api.ErrArg}, {0, math.MinInt, api.ErrArg}, {0, math.MaxInt, api.ErrArg},
	} {
		changes := d.Changes()
		is(t, fmt.Sprint("SetHard ", c), l.SetHard(c.term, c.vote), c.e)
		if c.e == api.OK {
			want.term, want.vote = c.term, c.vote
		} else if d.Changes() != changes {
			t.Errorf("SetHard %v: a change", c)
		}
		tells(t, "SetHard", l, want)
		steady(t, "SetHard", d, want)
		if s, _ := d.Read("hard"); s != hardText(want.term, want.vote) {
			t.Errorf("SetHard %v: the file %q", c, s)
		}
	}
	set := func(l *wal.Log) api.Errno { return l.SetHard(9, 1) }
	logDoes(t, "SetHard", disk.New(), set, "make w.1", "sync", "make hard.new", "sync", "make hard, remove hard.new", "sync")
	logDoes(t, "SetHard", d, set, "make hard.new", "sync", "remove hard.new, write hard", "sync")
	logDoes(t, "SetHard of what is", d, func(l *wal.Log) api.Errno { return l.SetHard(128, 3) }, "make hard.new", "sync", "remove hard.new", "sync")
}

// Promise 5.2: SetHard without room.
func TestSetHardFull(t *testing.T) {
	d := disk.New()
	l := opened(t, d)
	ok(t, "SetHard", l.SetHard(5, 5))
	all := on(d)
	d.Room(d.Used() + 9)
	is(t, "SetHard", l.SetHard(6, 6), api.ErrFull)
	tells(t, "full", l, told{term: 5, vote: 5})
	holds(t, "full", d, all)
	steady(t, "full", d, told{term: 5, vote: 5})
	d.Room(d.Used() + 10)
	ok(t, "SetHard", l.SetHard(6, 6))
	tells(t, "room", l, told{term: 6, vote: 6})
}

// Promise 5.3: where Append may begin.
func TestAppendGap(t *testing.T) {
	for _, at := range []base{{0, 0}, {30, 4}} {
		for _, n := range []int{0, 1, 8, 9, 20} {
			d := made(t, files{"w.1": baseText(at.index, at.term)})
			l := opened(t, d)
			ok(t, "Append", l.Append(at.index+1, some(5, n)))
			all, changes := on(d), d.Changes()
			for _, wrong := range []int{math.MinInt, math.MinInt + 1, -1, at.index - 1, at.index, at.index + n + 2, at.index + n + 100, math.MaxInt} {
				is(t, fmt.Sprint("Append ", wrong), l.Append(wrong, some(6, 3)), api.ErrGap)
				is(t, fmt.Sprint("Append of nothing ", wrong), l.Append(wrong, nil), api.ErrGap)
				is(t, fmt.Sprint("Append of wrong ones ", wrong), l.Append(wrong, []api.Entry{{Kind: -1}}), api.ErrGap)
			}
			holds(t, "gaps", d, all)
			if d.Changes() != changes {
				t.Errorf("gaps: a change")
			}
			tells(t, "gaps", l, told{vote: -1, base: at, entries: some(5, n)})
		}
	}
}

// Promise 5.3: entries that may not be change nothing.
func TestAppendWrong(t *testing.T) {
	most, long := strings.Repeat("x", api.MaxData), strings.Repeat("x", api.MaxData+1)
	good := []api.Entry{{}, {Term: api.MaxTerm, Kind: 255, Data: most}, {Data: "\x00\xff"}}
	d, l := laid(t, some(1, 10)...)
	all, changes := on(d), d.Changes()
	for _, c := range []struct {
		l []api.Entry
		e api.Errno
	}{
		{[]api.Entry{{Term: -1}}, api.ErrArg}, {[]api.Entry{{Term: api.MaxTerm + 1}}, api.ErrArg}, {[]api.Entry{{Kind: -1}}, api.ErrArg}, {[]api.Entry{{Kind: 256}}, api.ErrArg},
		{[]api.Entry{{Term: math.MinInt}}, api.ErrArg}, {[]api.Entry{{Kind: math.MaxInt}}, api.ErrArg},
		{[]api.Entry{{Data: long}}, api.ErrLong}, {[]api.Entry{{Data: long + long}}, api.ErrLong},
		{[]api.Entry{{Kind: 256, Data: long}}, api.ErrArg}, {[]api.Entry{{Term: -1, Data: long}}, api.ErrArg},
		{[]api.Entry{{Data: long}, {Kind: 256}}, api.ErrLong}, {[]api.Entry{{Kind: 256}, {Data: long}}, api.ErrArg},
		{append(slices.Clone(good), api.Entry{Data: long}), api.ErrLong}, {append(some(3, 20), api.Entry{Term: -5}), api.ErrArg},
	} {
		for _, at := range []int{1, 5, 9, 10, 11} {
			is(t, fmt.Sprintf("Append %d, %.40v", at, c.l), l.Append(at, c.l), c.e)
		}
	}
	holds(t, "wrong entries", d, all)
	if d.Changes() != changes {
		t.Errorf("wrong entries: a change")
	}
	tells(t, "wrong entries", l, told{vote: -1, entries: some(1, 10)})
	ok(t, "Append of what may just be", l.Append(2, good))
	want := told{vote: -1, entries: append(some(1, 1), good...)}
	tells(t, "what may just be", l, want)
	steady(t, "what may just be", d, want)
}

// Promise 5.3: entries stand in the place of all from at on, in segments of Wide.
func TestAppendReplaces(t *testing.T) {
	for had := range 26 {
		for at := 1; at <= had+1; at++ {
			for _, n := range []int{0, 1, 2, 7, 8, 9, 15, 16, 17} {
				what := fmt.Sprintf("%d, Append %d of %d", had, at, n)
				d, l := laid(t, some(1, had)...)
				ok(t, what, l.Append(at, some(2, n)))
				want := append(some(1, had)[:at-1], some(2, n)...)
				tells(t, what, l, told{vote: -1, entries: want})
				holds(t, what, d, inSegments(want))
				if d.Waits() != 0 {
					t.Errorf("%s: %d wait", what, d.Waits())
				}
			}
		}
	}
}

// inSegments are the files of a log from 1 on whose segments are all full but the last one.
func inSegments(l []api.Entry) files {
	all := files{"w.1": segmentText(0, 0, l[:min(wal.Wide, len(l))]...)}
	for n := 1; n*wal.Wide < len(l); n++ {
		from := n * wal.Wide
		all[fmt.Sprint("w.", n+1)] = segmentText(from, l[from-1].Term, l[from:min(from+wal.Wide, len(l))]...)
	}
	return all
}

// Promise 5.3: by which changes entries are laid, in which order, and that they are made sure behind all of them.
func TestAppendChanges(t *testing.T) {
	d, _ := laid(t, some(1, 20)...) // w.1 and w.2 are full, w.3 has four
	for _, c := range []struct {
		at, n int
		want  []string
	}{
		{21, 0, []string{"sync"}},
		{21, 1, []string{"append w.3", "sync"}},
		{21, 4, []string{"append w.3", "sync"}},
		{21, 5, []string{"append w.3", "make w.4", "sync"}},
		{21, 13, []string{"append w.3", "make w.4", "make w.5", "sync"}},
		{20, 0, []string{"cut w.3", "sync"}},
		{20, 2, []string{"cut w.3", "append w.3", "sync"}},
		{18, 7, []string{"cut w.3", "append w.3", "sync"}},
		{18, 8, []string{"cut w.3", "append w.3", "make w.4", "sync"}},
		{17, 0, []string{"remove w.3", "sync"}},
		{17, 1, []string{"remove w.3", "make w.3", "sync"}},
		{17, 17, []string{"remove w.3", "make w.3", "make w.4", "make w.5", "sync"}},
		{16, 0, []string{"remove w.3", "cut w.2", "sync"}},
		{16, 1, []string{"remove w.3", "cut w.2", "append w.2", "sync"}},
		{16, 2, []string{"remove w.3", "cut w.2", "append w.2", "make w.3", "sync"}},
		{9, 9, []string{"remove w.3", "remove w.2", "make w.2", "make w.3", "sync"}},
		{8, 2, []string{"remove w.3", "remove w.2", "cut w.1", "append w.1", "make w.2", "sync"}},
		{1, 0, []string{"remove w.3", "remove w.2", "cut w.1", "sync"}},
		{1, 8, []string{"remove w.3", "remove w.2", "cut w.1", "append w.1", "sync"}},
		{1, 9, []string{"remove w.3", "remove w.2", "cut w.1", "append w.1", "make w.2", "sync"}},
	} {
		logDoes(t, fmt.Sprintf("Append %d of %d", c.at, c.n), d, func(l *wal.Log) api.Errno { return l.Append(c.at, some(2, c.n)) }, c.want...)
	}
	full, _ := laid(t, some(1, 8)...)
	logDoes(t, "behind a full one", full, func(l *wal.Log) api.Errno { return l.Append(9, some(2, 1)) }, "make w.2", "sync")
	based := made(t, files{"w.7": segmentText(4, 1, some(1, 1)...)})
	logDoes(t, "at the base", based, func(l *wal.Log) api.Errno { return l.Append(5, some(2, 9)) }, "cut w.7", "append w.7", "make w.8", "sync")
}

// Promise 5.3: room that is short in each change of an Append; what was laid is taken back.
func TestAppendFull(t *testing.T) {
	had := some(1, 12)
	for at := 1; at <= 13; at++ {
		for _, n := range []int{1, 5, 8, 9, 30} {
			es := some(2, n)
			long, _ := laid(t, had...)
			ok(t, "Append", opened(t, long).Append(at, es))
			short, _ := laid(t, had...)
			ok(t, "Append", opened(t, short).Append(at, nil))
			for room := range long.Used() - short.Used() {
				what := fmt.Sprintf("Append %d of %d with room for %d", at, n, room)
				d, l := laid(t, had...)
				d.Room(short.Used() + room)
				is(t, what, l.Append(at, es), api.ErrFull)
				want := told{vote: -1, entries: had[:at-1]}
				tells(t, what, l, want)
				holds(t, what, d, on(short))
				if d.Waits() != 0 {
					t.Errorf("%s: %d wait", what, d.Waits())
				}
				steady(t, what, d, want)
				d.Room(long.Used())
				ok(t, what+", then room", l.Append(at, es))
				holds(t, what+", then room", d, on(long))
			}
		}
	}
}

// Promise 5.3: by which changes what was laid is taken back.
func TestAppendFullChanges(t *testing.T) {
	had, es := some(1, 12), some(2, 21)
	w2 := len(segmentText(8, 1, had[8:]...))
	whole := map[string]int{"append": len(entriesText(es[:4]...)), "3": len(segmentText(12, 2, es[4:12]...)), "4": len(segmentText(20, 2, es[12:20]...))}
	for _, c := range []struct {
		at   int
		room int // more than there is
		want []string
	}{
		{13, 0, []string{"sync"}},
		{13, whole["append"], []string{"append w.2", "cut w.2", "sync"}},
		{13, whole["append"] + whole["3"], []string{"append w.2", "make w.3", "remove w.3", "cut w.2", "sync"}},
		{13, whole["append"] + whole["3"] + whole["4"], []string{"append w.2", "make w.3", "make w.4", "remove w.4", "remove w.3", "cut w.2", "sync"}},
		{9, -w2, []string{"remove w.2", "sync"}},
		{9, len(segmentText(8, 1, es[:8]...)) - w2, []string{"remove w.2", "make w.2", "remove w.2", "sync"}},
	} {
		d, _ := laid(t, had...)
		d.Room(d.Used() + c.room)
		logDoes(t, fmt.Sprintf("Append %d with room for %d", c.at, c.room), d, func(l *wal.Log) api.Errno {
			e := l.Append(c.at, es)
			if e != api.ErrFull && e != api.ErrDown {
				t.Errorf("Append %d with room for %d: %v", c.at, c.room, e)
			}
			return e
		}, c.want...)
	}
}

// Promise 5.3: Compact below the base, at each entry, beyond the end.
func TestCompact(t *testing.T) {
	had := some(3, 20)
	for _, first := range []int{0, 8} {
		for index := first - 2; index <= 22; index++ {
			what := fmt.Sprintf("from %d on, Compact %d", first, index)
			d, l := laid(t, had...)
			ok(t, what, l.Compact(first))
			all, changes := on(d), d.Changes()
			want := told{vote: -1, entries: had[first:]}
			if first > 0 {
				want.base = base{first, 3}
			}
			if index < first || index > 20 {
				is(t, what, l.Compact(index), api.ErrGap)
				tells(t, what, l, want)
				holds(t, what, d, all)
				if d.Changes() != changes {
					t.Errorf("%s: a change", what)
				}
				continue
			}
			ok(t, what, l.Compact(index))
			if whole := min(index, 16) / 8 * 8; whole > 0 {
				want = told{vote: -1, base: base{whole, 3}, entries: had[whole:]}
			}
			tells(t, what, l, want)
			steady(t, what, d, want)
			ok(t, what, l.Append(21, some(4, 9)))
			want.entries = append(slices.Clone(want.entries), some(4, 9)...)
			tells(t, what+", then Append", l, want)
			steady(t, what+", then Append", d, want)
		}
	}
	_, l := laid(t, had...)
	for _, index := range []int{math.MinInt, -1, 21, math.MaxInt} {
		is(t, "Compact", l.Compact(index), api.ErrGap)
	}
}

// Promise 5.3: by which changes segments go; if none does, nothing is made sure.
func TestCompactChanges(t *testing.T) {
	d, _ := laid(t, some(1, 24)...)
	for index, want := range map[int][]string{
		0: nil, 1: nil, 7: nil, 8: {"remove w.1", "sync"}, 9: {"remove w.1", "sync"}, 15: {"remove w.1", "sync"},
		16: {"remove w.1", "remove w.2", "sync"}, 23: {"remove w.1", "remove w.2", "sync"}, 24: {"remove w.1", "remove w.2", "sync"}, 25: nil,
	} {
		logDoes(t, fmt.Sprint("Compact ", index), d, func(l *wal.Log) api.Errno { return l.Compact(index) }, want...)
	}
}

// Promise 5.3: Reset to any base, and what is laid behind.
func TestReset(t *testing.T) {
	for _, n := range []int{0, 3, 8, 20} {
		for _, at := range []base{{0, 0}, {0, 5}, {2, 1}, {n, 1}, {n, 2}, {100, 7}, {api.MaxTerm, api.MaxTerm}, {api.MaxTerm, 0}} {
			what := fmt.Sprint(n, ", Reset ", at)
			d, l := laid(t, some(1, n)...)
			ok(t, what, l.SetHard(2, 3))
			number := len(d.Names()) // with hard among them it is 1 above the segments'
			ok(t, what, l.Reset(at.index, at.term))
			want := told{term: 2, vote: 3, base: at}
			tells(t, what, l, want)
			holds(t, what, d, files{"hard": hardText(2, 3), fmt.Sprint("w.", number): baseText(at.index, at.term)})
			steady(t, what, d, want)
			ok(t, what, l.Append(at.index+1, some(9, 5)))
			want.entries = some(9, 5)
			tells(t, what+", then Append", l, want)
			steady(t, what+", then Append", d, want)
		}
	}
	d, l := laid(t, some(1, 9)...)
	all, changes := on(d), d.Changes()
	for _, at := range []base{{-1, 0}, {0, -1}, {api.MaxTerm + 1, 0}, {0, api.MaxTerm + 1}, {math.MinInt, 1}, {1, math.MaxInt}} {
		is(t, fmt.Sprint("Reset ", at), l.Reset(at.index, at.term), api.ErrArg)
	}
	holds(t, "Reset to nothing", d, all)
	if d.Changes() != changes {
		t.Errorf("Reset to nothing: a change")
	}
	tells(t, "Reset to nothing", l, told{vote: -1, entries: some(1, 9)})
}

// Promise 5.3: by which changes a log is reset, and without room.
func TestResetChanges(t *testing.T) {
	reset := func(l *wal.Log) api.Errno { return l.Reset(20, 1) }
	d, l := laid(t, some(1, 20)...)
	logDoes(t, "Reset", d, reset, "make w.4", "sync", "remove w.1", "remove w.2", "remove w.3", "sync")
	d.Room(d.Used() + len(baseText(20, 1)) - 1)
	logDoes(t, "Reset without room", d, reset)
	is(t, "Reset without room", reset(l), api.ErrFull)
	tells(t, "Reset without room", l, told{vote: -1, entries: some(1, 20)})
	steady(t, "Reset without room", d, told{vote: -1, entries: some(1, 20)})
	d.Room(d.Used() + len(baseText(20, 1)))
	ok(t, "Reset with room", reset(l))
	tells(t, "Reset with room", l, told{vote: -1, base: base{20, 1}})
}

// Words: no segment has a number, or a base, that would not be found again; what would need one has no room.
func TestNoMoreSegments(t *testing.T) {
	const most = "w.4611686018427387903"
	at := base{3, 1}
	d := made(t, files{most: segmentText(at.index, at.term, some(1, 6)...)})
	l := opened(t, d)
	is(t, "Reset", l.Reset(7, 7), api.ErrFull)
	is(t, "Append of too many", l.Append(10, some(2, 3)), api.ErrFull)
	steady(t, "the greatest number", d, told{vote: -1, base: at, entries: some(1, 6)})
	ok(t, "Append of all that has room", l.Append(10, some(2, 2)))
	want := told{vote: -1, base: at, entries: append(some(1, 6), some(2, 2)...)}
	tells(t, "the greatest number", l, want)
	steady(t, "the greatest number", d, want)
	d = made(t, files{"w.4611686018427387902": baseText(api.MaxTerm-8, 1)})
	l = opened(t, d)
	ok(t, "Append up to the greatest number and base", l.Append(api.MaxTerm-7, some(2, 16)))
	want = told{vote: -1, base: base{api.MaxTerm - 8, 1}, entries: some(2, 16)}
	tells(t, "the greatest number and base", l, want)
	steady(t, "the greatest number and base", d, want)
	d = disk.New()
	l = opened(t, d)
	ok(t, "Reset", l.Reset(api.MaxTerm, 1))
	is(t, "Append of too many", l.Append(api.MaxTerm+1, some(2, 9)), api.ErrFull)
	ok(t, "Append of all that has room", l.Append(api.MaxTerm+1, some(2, 8)))
	steady(t, "the greatest index", d, told{vote: -1, base: base{api.MaxTerm, 1}, entries: some(2, 8)})
}

// Promise 5.4: a nil log, and one that no call made.
func TestNoLog(t *testing.T) {
	for _, l := range []*wal.Log{nil, {}, new(wal.Log)} {
		for _, e := range []api.Errno{
			l.SetHard(1, 1), l.SetHard(-1, 9), l.Append(1, some(1, 3)), l.Append(0, nil), l.Append(1, []api.Entry{{Kind: -1}}),
			l.Compact(0), l.Compact(-1), l.Reset(1, 1), l.Reset(-1, -1),
		} {
			is(t, "no log", e, api.ErrArg)
		}
		tells(t, "no log", l, told{})
	}
}

// Promise 5.4: a log is lost with the first ErrDown, and stays so.
func TestLost(t *testing.T) {
	calls := map[string]func(l *wal.Log) api.Errno{
		"SetHard": func(l *wal.Log) api.Errno { return l.SetHard(7, 1) },
		"Append":  func(l *wal.Log) api.Errno { return l.Append(3, some(2, 12)) },
		"nothing": func(l *wal.Log) api.Errno { return l.Append(21, nil) },
		"Compact": func(l *wal.Log) api.Errno { return l.Compact(17) },
		"Reset":   func(l *wal.Log) api.Errno { return l.Reset(4, 4) },
	}
	for name, call := range calls {
		d, l := laid(t, some(1, 20)...)
		d.Fail(0, 0)
		is(t, "SetHard of wrong ones, ahead of the loss", l.SetHard(-1, 0), api.ErrArg)
		is(t, "Append at a gap, ahead of the loss", l.Append(0, nil), api.ErrGap)
		is(t, "Append of a wrong one, ahead of the loss", l.Append(1, []api.Entry{{Kind: 256}}), api.ErrArg)
		is(t, "Compact at a gap, ahead of the loss", l.Compact(21), api.ErrGap)
		is(t, "Reset to nothing, ahead of the loss", l.Reset(-1, 0), api.ErrArg)
		is(t, name, call(l), api.ErrDown)
		for _, up := range []bool{false, true, true} {
			if up {
				d.Up()
			}
			for other, call := range calls {
				is(t, name+", then "+other, call(l), api.ErrDown)
			}
			for _, e := range []api.Errno{l.SetHard(-1, 0), l.Append(0, nil), l.Append(1, []api.Entry{{Kind: 256}}), l.Compact(21), l.Compact(0), l.Reset(-1, 0)} {
				is(t, name+", then a wrong one", e, api.ErrDown)
			}
			l.Hard()
			l.Base()
			l.End()
			l.Entry(3)
			l.From(0)
		}
		steady(t, name, d, told{vote: -1, entries: some(1, 20)})
	}
}

// Promise 5.4: a log that saw nothing of a loss of power is not lost by it.
func TestNotLost(t *testing.T) {
	d, l := laid(t, some(1, 9)...)
	d.Fail(0, 0)
	ok(t, "Compact of nothing", l.Compact(3))
	d.Up()
	ok(t, "Append", l.Append(10, some(2, 1)))
	ok(t, "Compact", l.Compact(9))
	want := told{vote: -1, base: base{8, 1}, entries: append(some(1, 9)[8:], some(2, 1)...)}
	tells(t, "not lost", l, want)
	steady(t, "not lost", d, want)
}

// Rule R3: what is handed in is not kept or changed, and what is answered is nobody else's.
func TestSharesNothing(t *testing.T) {
	l := opened(t, disk.New())
	es := some(1, 10)
	for i := range es {
		es[i].Data = strings.Clone("some bytes")
	}
	handed := slices.Clone(es)
	ok(t, "Append", l.Append(1, es))
	if !slices.Equal(es, handed) {
		t.Errorf("Append changed what was handed in")
	}
	es[0], es[9] = api.Entry{Term: 9}, api.Entry{Term: 9}
	one, two := l.From(1), l.From(1)
	if !slices.Equal(one, handed) {
		t.Errorf("Append kept what was handed in")
	}
	for i := range one {
		entry, _ := l.Entry(1 + i)
		apart := map[*byte]int{}
		for _, s := range []string{one[i].Data, two[i].Data, entry.Data, handed[i].Data} {
			apart[unsafe.StringData(s)]++
		}
		if len(apart) != 4 {
			t.Errorf("the entry %d is one memory with another", i)
		}
	}
	one[0].Kind, one[9].Kind = 77, 77
	if !slices.Equal(l.From(0), handed) {
		t.Errorf("the log changed with an answer")
	}
}
