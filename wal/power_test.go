package wal_test

import (
	"fmt"
	"math/rand"
	"slices"
	"testing"

	"stowage/api"
	"stowage/disk"
	"stowage/wal"
)

// call is a call of a log, and what may be left of the log when the power fails within it.
type call struct {
	name string
	do   func(l *wal.Log) api.Errno
	may  func(was, is told) bool
	end  func(was told) told // when it was done
}

// setHard is a call of SetHard.
func setHard(term, vote int) call {
	end := func(was told) told {
		was.term, was.vote = term, vote
		return was
	}
	return call{
		fmt.Sprintf("SetHard(%d, %d)", term, vote),
		func(l *wal.Log) api.Errno { return l.SetHard(term, vote) },
		func(was, is told) bool { return is.same(was) || is.same(end(was)) },
		end,
	}
}

// appends is a call of Append.
func appends(at int, es []api.Entry) call {
	ahead := func(was told) []api.Entry { return was.entries[: at-1-was.base.index : at-1-was.base.index] }
	may := func(was, is told) bool {
		if is.term != was.term || is.vote != was.vote || is.base != was.base || len(is.entries) < len(ahead(was)) {
			return false
		}
		laid := append(ahead(was), es...)
		n := len(is.entries)
		return n <= len(was.entries) && slices.Equal(is.entries, was.entries[:n]) || n <= len(laid) && slices.Equal(is.entries, laid[:n])
	}
	end := func(was told) told {
		was.entries = append(ahead(was), es...)
		return was
	}
	return call{fmt.Sprintf("Append(%d, %d entries)", at, len(es)), func(l *wal.Log) api.Errno { return l.Append(at, es) }, may, end}
}

// isLater tells whether a log is another one whose first entries went.
func isLater(was, is told) bool {
	went := is.base.index - was.base.index
	if went < 0 || went > len(was.entries) || is.term != was.term || is.vote != was.vote {
		return false
	}
	ahead := told{base: was.base, entries: was.entries[:went]}
	return is.base == ahead.end() && slices.Equal(is.entries, was.entries[went:])
}

// compacts is a call of Compact; how far it goes is the segments' matter.
func compacts(index int) call {
	may := func(was, is told) bool { return isLater(was, is) && is.base.index <= max(index, was.base.index) }
	return call{fmt.Sprintf("Compact(%d)", index), func(l *wal.Log) api.Errno { return l.Compact(index) }, may, nil}
}

// resets is a call of Reset.
func resets(index, term int) call {
	end := func(was told) told {
		was.base, was.entries = base{index, term}, nil
		return was
	}
	// Where the new base is the old end the old segments go on to it, as long as they are there.
	may := func(was, is told) bool {
		return is.same(was) || is.same(end(was)) || was.end() == base{index, term} && isLater(was, is)
	}
	return call{fmt.Sprintf("Reset(%d, %d)", index, term), func(l *wal.Log) api.Errno { return l.Reset(index, term) }, may, end}
}

// Promises 5.4 and 5.5: a loss of power at each change of each call, and opening again behind it.
func TestPowerAtEachChange(t *testing.T) {
	for _, n := range []int{0, 3, 8, 12, 20} {
		d, l := laid(t, some(1, n)...)
		ok(t, "SetHard", l.SetHard(2, 5))
		was := tell(t, "laid", l)
		calls := []call{setHard(3, -1), setHard(2, 5), resets(n, 1), resets(0, 0), resets(3, 3), resets(100, 9)}
		for at := 1; at <= n+1; at += 3 {
			calls = append(calls, appends(at, nil), appends(at, some(2, 1)), appends(at, some(2, 9)), appends(at, some(2, 18)))
		}
		for index := 0; index <= n; index += 4 {
			calls = append(calls, compacts(index))
		}
		for _, c := range calls {
			failsAtEach(t, d, was, c)
		}
	}
}

// failsAtEach lets the power fail at each change of a call, in many ways.
func failsAtEach(t *testing.T, d *disk.Disk, was told, c call) {
	t.Helper()
	for k := 0; ; k++ {
		for keep := range k + 2 {
			for _, torn := range []int{0, 1, 9, 10, 11, 20, 30, 60, 1 << 30} {
				what := fmt.Sprintf("%s, the power fails at its change %d with %d and %d", c.name, k, keep, torn)
				one := d.Clone()
				one.Plan([]api.Fall{{At: d.Changes() + k, Keep: keep, Torn: torn}})
				l := opened(t, one)
				e := c.do(l)
				if !one.Down() {
					if e != api.OK || one.Waits() != 0 {
						t.Errorf("%s: %v", what, e)
					}
					one.Fail(0, 0)
					one.Up()
					finds(t, what, one, func(is told) bool { return c.may(was, is) && (c.end == nil || is.same(c.end(was))) })
					return
				}
				is(t, what, e, api.ErrDown)
				one.Up()
				is(t, what, l.SetHard(1, 1), api.ErrDown)
				finds(t, what, one, func(is told) bool { return c.may(was, is) })
			}
		}
	}
}

// finds asks what a log is behind a loss of power, and that it stays so, whatever becomes of what was mended.
func finds(t *testing.T, what string, d *disk.Disk, may func(is told) bool) told {
	t.Helper()
	l, e := wal.Open(d)
	if e != api.OK {
		t.Errorf("%s: Open: %v", what, e)
		return told{}
	}
	found := tell(t, what, l)
	if !may(found) {
		t.Errorf("%s: %v", what, found)
	}
	if d.Waits() != 0 {
		t.Errorf("%s: %d wait", what, d.Waits())
	}
	d.Fail(0, 0)
	d.Up()
	steady(t, what, d, found)
	return found
}

// Promise 5.5: a loss of power within Open itself, and opening again behind it.
func TestPowerWithinOpen(t *testing.T) {
	l := some(1, 4)
	for _, all := range []files{
		{}, {"hard.new": "x"}, {"hard.new": "x", "w.1": baseText(0, 0)}, {"w.1": "x"}, {"w.3": "x", "hard.new": "y"},
		{"hard": hardText(3, 3), "hard.new": hardText(4, 4), "w.1": segmentText(0, 0, l...), "w.2": baseText(4, 1)[:7]},
		{"w.2": segmentText(0, 0, l...), "w.3": segmentText(4, 1, l...) + "tail"},
		{"hard.new": "", "w.8": segmentText(0, 0, l...), "w.9": segmentText(9, 1, l...), "w.10": segmentText(20, 2, l...), "w.11": segmentText(24, 1, l[0]) + entriesText(l[1])[:9]},
		{"w.8": segmentText(0, 0, l...), "w.9": segmentText(9, 1, l...), "w.10": "torn"},
	} {
		d := made(t, all)
		want := tell(t, "Open", opened(t, d.Clone()))
		for k, strikes := 0, true; strikes; k++ {
			for keep := range k + 2 {
				for _, torn := range []int{0, 1, 9, 1 << 30} {
					what := fmt.Sprintf("Open of %q, the power fails at its change %d with %d and %d", all, k, keep, torn)
					one := d.Clone()
					one.Plan([]api.Fall{{At: d.Changes() + k, Keep: keep, Torn: torn}})
					l, e := wal.Open(one)
					if strikes = one.Up(); strikes && (l != nil || e != api.ErrDown) {
						t.Errorf("%s: %v", what, e)
					}
					finds(t, what, one, want.same)
				}
			}
		}
	}
}

// Promises 5.1 to 5.5: any calls, held against a plain list of entries, with losses of power and without room.
func TestAnyCalls(t *testing.T) {
	for seed := range 60 {
		r := rand.New(rand.NewSource(int64(seed)))
		d := disk.New()
		l := opened(t, d)
		was := tell(t, "new", l)
		for n := range 120 {
			c := anyCall(r, was)
			what := fmt.Sprintf("seed %d, call %d, %s", seed, n, c.name)
			if r.Intn(4) == 0 {
				d.Plan([]api.Fall{{At: d.Changes() + r.Intn(5), Keep: r.Intn(5), Torn: r.Intn(80)}})
			} else {
				d.Plan(nil)
			}
			if d.Room(-1); r.Intn(6) == 0 {
				d.Room(d.Used() + r.Intn(200))
			}
			e := c.do(l)
			if t.Failed() {
				return
			}
			switch e {
			case api.OK:
				was = done(t, what, was, tell(t, what, l), c)
			case api.ErrFull:
				was = full(t, what, was, tell(t, what, l), c)
			case api.ErrDown:
				d.Up()
				d.Plan(nil)
				d.Room(-1)
				was = finds(t, what, d, func(is told) bool { return c.may(was, is) })
				l = opened(t, d)
			default:
				t.Errorf("%s: %v", what, e)
			}
			d.Plan(nil)
			steady(t, what, d, was)
		}
	}
}

// done asks that a call was done.
func done(t *testing.T, what string, was, is told, c call) told {
	t.Helper()
	if !c.may(was, is) || c.end != nil && !is.same(c.end(was)) {
		t.Errorf("%s: %v", what, is)
	}
	return is
}

// full asks that a call left nothing of what it was to lay.
func full(t *testing.T, what string, was, is told, c call) told {
	t.Helper()
	n := len(is.entries)
	ends := n <= len(was.entries) && slices.Equal(is.entries, was.entries[:n])
	if !c.may(was, is) || !ends || is.base != was.base {
		t.Errorf("%s: %v", what, is)
	}
	return is
}

// anyCall is a call that a log can do.
func anyCall(r *rand.Rand, was told) call {
	end := was.end()
	switch r.Intn(12) {
	case 0:
		return setHard(r.Intn(100), r.Intn(8)-1)
	case 1, 2:
		return compacts(was.base.index + r.Intn(end.index-was.base.index+1))
	case 3:
		return resets(end.index, end.term)
	case 4:
		return resets(r.Intn(50), r.Intn(5))
	case 5, 6, 7:
		return appends(was.base.index+1+r.Intn(end.index-was.base.index+1), some(1+r.Intn(9), r.Intn(20)))
	}
	return appends(end.index+1, some(1+r.Intn(9), r.Intn(20)))
}
