package node_test

import (
	"fmt"
	"math"
	"slices"
	"testing"

	"stowage/api"
	"stowage/disk"
	"stowage/frame"
	"stowage/node"
	"stowage/shot"
	"stowage/wal"
)

// The example of the chapter.
func TestExample(t *testing.T) {
	d := disk.New()
	n := opened(t, d, 0, 0)
	ticks(t, n, 9)
	if n.Raft().Role() != api.Follower {
		t.Errorf("nine ticks: it stands too early")
	}
	ticks(t, n, 1)
	if n.Raft().Role() != api.Leader {
		t.Errorf("ten ticks: it does not lead")
	}
	if i, l, e := n.Propose("x"); i != 2 || len(l) != 0 || e != api.OK {
		t.Errorf("Propose: %d, %v, %v", i, l, e)
	}
	d.Fail(0, 0)
	isDown(t, "a loss of power", n, 0, 0)
	d.Up()
	isDown(t, "the power is there again", n, 0, 0)
	n = opened(t, d, 0, 0)
	x := api.Entry{Term: 1, Data: "x"}
	if e, is := n.Raft().Entry(2); !is || e != x {
		t.Errorf("x is gone: %v", e)
	}
	handsNone(t, "ahead of leading", n)
	ticks(t, n, 10)
	hands(t, "when it leads again", n, 1, noop(1), x, noop(2))
}

// broken are files that are none of their kind.
func broken(t *testing.T, all files) *disk.Disk {
	t.Helper()
	d := disk.New()
	for name, s := range all {
		ok(t, "Write", d.Write(name, s))
	}
	ok(t, "Sync", d.Sync())
	return d
}

// refusesOpen asks for an error of Open; nothing is told beside it.
func refusesOpen(t *testing.T, what string, d *disk.Disk, me int, members []int, want api.Errno) {
	t.Helper()
	for _, draw := range []int{0, 5, math.MinInt, math.MaxInt} {
		if n, e := node.Open(d, me, members, draw); n != nil || e != want {
			t.Errorf("%s: Open: %v, %v, not %v", what, n, e, want)
		}
	}
}

// Promise 11.1: ErrArg of each argument, ahead of what the disk says.
func TestOpenWrong(t *testing.T) {
	down := disk.New()
	down.Fail(0, 0)
	full := disk.New()
	full.Room(0)
	for _, d := range []*disk.Disk{nil, disk.New(), down, full, broken(t, files{"snap": "x"}), broken(t, files{"hard": "x"})} {
		before := d.Changes()
		for _, me := range []int{-1, 7, 8, math.MinInt, math.MaxInt} {
			refusesOpen(t, fmt.Sprint("me ", me), d, me, []int{0, 1}, api.ErrArg)
		}
		for _, l := range [][]int{nil, {}, {7}, {-1}, {1, 0}, {0, 0}, {0, 1, 1}, {0, 1, 2, 3, 4, 5, 6, 7}, {0, math.MaxInt}} {
			refusesOpen(t, fmt.Sprint("members ", l), d, 0, l, api.ErrArg)
		}
		if d.Changes() != before {
			t.Errorf("ErrArg: %d changes", d.Changes()-before)
		}
	}
	refusesOpen(t, "nil", nil, 0, []int{0}, api.ErrArg)
	refusesOpen(t, "down", down, 0, []int{0}, api.ErrDown)
	refusesOpen(t, "without room", full, 0, []int{0}, api.ErrFull)
	full.Room(-1)
	opened(t, full, 0, 0)
}

// Promise 11.1: each node, and each configuration, the node in it or not.
func TestOpenRight(t *testing.T) {
	for me := range api.MaxNodes {
		for _, l := range [][]int{{0}, {6}, {1, 3}, {0, 1, 2, 3, 4, 5, 6}} {
			n := opened(t, disk.New(), me, l...)
			if n.Me() != me || n.Times() != 0 || !slices.Equal(n.Raft().Members(), l) || n.Raft().Commit() != 0 {
				t.Errorf("Open of %d, %v: Me %d, Members %v", me, l, n.Me(), n.Raft().Members())
			}
			if got := of(n.Raft()); !got.same(state{vote: -1, base: api.Shot{Members: l}}) {
				t.Errorf("Open of %d, %v: %v", me, l, got)
			}
		}
	}
}

// framed is a body's frame.
func framed(body string) string {
	s, _ := frame.Frame(body)
	return s
}

// Promise 11.1: the errors of Load, then those of wal.Open, then those of standing up.
func TestOpenErrors(t *testing.T) {
	text, _ := shot.Encode(shotOf(5, 2, 3, 0, 1))
	for _, s := range []string{"", "x", text, framed(text)[:9], framed(text) + "x", framed(text + "x"), framed("")} {
		d := broken(t, files{"snap": s})
		refusesOpen(t, "no snapshot", d, 0, []int{0}, api.ErrCorrupt)
		d.Room(0) // wal.Open would say that there is none
		refusesOpen(t, "no snapshot, no room", d, 0, []int{0}, api.ErrCorrupt)
		if l := d.Names(); len(l) != 1 {
			t.Errorf("no snapshot: the files %q", l)
		}
	}
	for _, all := range []files{{"hard": "x"}, {"w.1": "x", "w.2": "y"}, {"w.1": framed("x")}, {"snap": framed(text), "hard": ""}, {"snap": framed(text), "w.1": framed("")}} {
		refusesOpen(t, "no log", broken(t, all), 0, []int{0}, api.ErrCorrupt)
	}
	one := shotOf(5, 2, 3, 0, 1)
	for _, c := range []struct {
		name string
		a    disked
		want api.Errno
	}{
		{"a base beyond", disked{shot: one, log: true, index: 6, base: 2}, api.ErrCorrupt},
		{"a base far beyond, of the snapshot's term", disked{shot: one, log: true, index: 60, base: 2, entries: entriesOf(2, 2), term: 2}, api.ErrCorrupt},
		{"a base beyond, and entries that no node can have", disked{shot: one, log: true, index: 6, base: 2, entries: entriesOf(9)}, api.ErrCorrupt},
		{"a base beyond nothing", disked{log: true, index: 1, base: 1}, api.ErrCorrupt},
		{"entries of terms above the term", disked{log: true, entries: entriesOf(1, 2), term: 1, vote: 1}, api.ErrArg},
		{"entries whose terms fall", disked{log: true, entries: entriesOf(2, 1), term: 5, vote: 1}, api.ErrArg},
		{"entries behind the snapshot's of a lesser term", disked{shot: one, log: true, index: 5, base: 2, entries: entriesOf(1), term: 5, vote: 1}, api.ErrArg},
	} {
		d := c.a.disk(t)
		before := on(d)
		d.Room(0)
		refusesOpen(t, c.name, d, 0, []int{0}, c.want)
		if got := on(d); len(got) != len(before) {
			t.Errorf("%s: the files changed", c.name)
		}
	}
}

// stood is what a disk has, what stands up from it, and what is done to it then.
type stood struct {
	name string
	a    disked
	want state
	does []string
}

// afresh is what Reset does to a log of one segment.
var afresh = []string{"make w.2", "sync", "remove w.1", "sync"}

// stands are disks of all kinds.
func stands() []stood {
	one := shotOf(5, 2, 3, 1, 3)
	none := api.Shot{Members: []int{0, 1, 2}}
	some := entriesOf(1, 1, 2, 2, 2, 3, 3)
	long := entriesOf(many(2, 20)...)
	renewed := disked{log: true, index: 5, base: 2, entries: some[5:], term: 3, vote: 4}.with(one)
	return []stood{
		{"nothing", disked{}, state{vote: -1, base: none}, []string{"make w.1", "sync"}},
		{"an empty log", disked{log: true}, state{vote: -1, base: none}, nil},
		{"a term and a vote alone", disked{log: true, term: 4, vote: 3}, state{term: 4, vote: 3, base: none}, nil},
		{"a term alone", disked{log: true, term: 4, vote: -1}, state{term: 4, vote: -1, base: none}, nil},
		{"a log alone", disked{log: true, entries: some, term: 3, vote: 0}, state{3, 0, none, some}, nil},
		{"a log of some segments alone", disked{log: true, entries: long, term: 2, vote: 6}, state{2, 6, none, long}, nil},
		{"a log of another base 0", disked{log: true, base: 1, entries: entriesOf(1, 1), term: 1, vote: 2}, state{term: 1, vote: 2, base: none}, []string{"make w.3", "sync", "remove w.2", "sync"}},
		{"a snapshot alone", disked{shot: one}, state{term: 2, vote: -1, base: one}, []string{"make w.1", "sync", "make w.2", "sync", "remove w.1", "sync"}},
		{"a snapshot of nothing alone", disked{shot: shotOf(0, 0, 0, 2, 4)}, state{vote: -1, base: shotOf(0, 0, 0, 2, 4)}, []string{"make w.1", "sync"}},
		{"a snapshot and a lesser term", disked{log: true, term: 1, vote: 4}.with(one), state{term: 2, vote: 4, base: one}, afresh},
		{"a snapshot and a greater term", disked{log: true, term: 3, vote: 4}.with(one), state{term: 3, vote: 4, base: one}, afresh},
		{"a log that has the snapshot's entry", disked{log: true, entries: some, term: 3, vote: 4}.with(one), state{3, 4, one, some[5:]}, nil},
		{"a log that has the snapshot's entry as its last one", disked{log: true, entries: some[:5], term: 2, vote: 4}.with(one), state{term: 2, vote: 4, base: one}, nil},
		{"a log of some segments that has it", disked{log: true, entries: long, term: 9, vote: -1}.with(one), state{9, -1, one, long[5:]}, nil},
		{"a log that has it as its base", renewed, state{3, 4, one, some[5:]}, nil},
		{"a log whose base it is alone", disked{log: true, index: 5, base: 2}.with(one), state{term: 2, vote: -1, base: one}, nil},
		{"a log that ends ahead of it", disked{log: true, entries: some[:4], term: 2, vote: 4}.with(one), state{term: 2, vote: 4, base: one}, afresh},
		{"a log that is empty", disked{log: true}.with(one), state{term: 2, vote: -1, base: one}, afresh},
		{"a log that has it of a lesser term", disked{log: true, entries: entriesOf(1, 1, 1, 1, 1, 2), term: 3, vote: 4}.with(one), state{term: 3, vote: 4, base: one}, afresh},
		{"a log that has it of a greater term", disked{log: true, entries: entriesOf(1, 1, 1, 1, 3, 3), term: 3, vote: 4}.with(one), state{term: 3, vote: 4, base: one}, afresh},
		{"a log that has it as its base of another term", disked{log: true, index: 5, base: 1, entries: entriesOf(2, 2), term: 3, vote: 4}.with(one), state{term: 3, vote: 4, base: one}, []string{"make w.3", "sync", "remove w.2", "sync"}},
	}
}

// with is the same with a snapshot.
func (a disked) with(s api.Shot) disked {
	a.shot = s
	return a
}

// What it is to stand up: from disks of all kinds, and what is done to them.
func TestStand(t *testing.T) {
	for _, c := range stands() {
		d := c.a.disk(t)
		got := trace(func() (*disk.Disk, func()) {
			one := d.Clone()
			return one, func() { node.Open(one, 1, []int{0, 1, 2}, 0) }
		})
		if !slices.Equal(got, c.does) {
			t.Errorf("%s: %q, not %q", c.name, got, c.does)
		}
		n := opened(t, d, 1, 0, 1, 2)
		asks(t, c, n, d)
		isKept(t, c.name, n, d, 0, 1, 2)
		// Once more there is nothing to be done.
		changes := d.Changes()
		asks(t, c, opened(t, d, 1, 0, 1, 2), d)
		if d.Changes() != changes {
			t.Errorf("%s: standing up again: %d changes", c.name, d.Changes()-changes)
		}
	}
}

// asks asks for what stood up.
func asks(t *testing.T, c stood, n *node.Node, d *disk.Disk) {
	t.Helper()
	if got := of(n.Raft()); !got.same(c.want) {
		t.Errorf("%s:\n%v\nnot\n%v", c.name, got, c.want)
	}
	if r := n.Raft(); r.Commit() != c.want.base.Index || r.Role() != api.Follower || r.Leader() != -1 || n.Me() != 1 || n.Times() != 0 {
		t.Errorf("%s: Commit %d, Role %d, Leader %d, Times %d", c.name, r.Commit(), r.Role(), r.Leader(), n.Times())
	}
	takesNone(t, c.name, n)
	handsNone(t, c.name, n)
	l, e := wal.Open(d.Clone())
	if e != api.OK || !slices.Equal(l.From(c.want.base.Index+1), c.want.entries) {
		t.Errorf("%s: the log has %v, %v", c.name, l.From(c.want.base.Index+1), e)
	}
	if last, _ := l.End(); last != c.want.base.Index+len(c.want.entries) {
		t.Errorf("%s: the log ends with %d", c.name, last)
	}
}

// What it is to stand up: a loss of power at each change of it, and once more behind that.
func TestPowerWithinOpen(t *testing.T) {
	fell := 0
	for _, c := range stands() {
		for _, left := range []files{nil, {"snap.new": "torn", "hard.new": "torn"}} {
			d := c.a.disk(t)
			for name, s := range left {
				ok(t, "Write", d.Write(name, s))
			}
			ok(t, "Sync", d.Sync())
			for k, strikes := 0, true; strikes; k++ {
				for keep := range k + 2 {
					for _, torn := range []int{0, 1, 9, 1 << 30} {
						what := fmt.Sprintf("%s, the power fails at %d with %d and %d", c.name, k, keep, torn)
						one := d.Clone()
						one.Plan([]api.Fall{{At: d.Changes() + k, Keep: keep, Torn: torn}})
						n, e := node.Open(one, 1, []int{0, 1, 2}, 0)
						strikes = one.Up()
						if strikes != (e == api.ErrDown) || strikes != (n == nil) {
							t.Fatalf("%s: %v", what, e)
						}
						c.name = what
						asks(t, c, opened(t, one, 1, 0, 1, 2), one)
						if strikes {
							fell++
						}
					}
				}
			}
		}
	}
	if fell < 200 {
		t.Errorf("too little happened: %d", fell)
	}
}

// What it is to stand up: without room for the log's new base.
func TestOpenWithoutRoom(t *testing.T) {
	for _, c := range stands() {
		d := c.a.disk(t)
		before := on(d)
		d.Room(d.Used())
		n, e := node.Open(d, 1, []int{0, 1, 2}, 0)
		if len(c.does) == 0 {
			ok(t, c.name, e)
			continue
		}
		if n != nil || e != api.ErrFull || d.Waits() != 0 {
			t.Errorf("%s: without room: %v", c.name, e)
		}
		if got := on(d); len(got) != len(before) {
			t.Errorf("%s: without room: the files changed", c.name)
		}
		d.Room(-1)
		asks(t, c, opened(t, d, 1, 0, 1, 2), d)
	}
}

// Promise 11.1: the draw of Open says how long the first wait is.
func TestOpenDraw(t *testing.T) {
	for draw, wait := range map[int]int{0: 10, 1: 11, 10: 20, 11: 10, 17: 16, -1: 20, -11: 10, math.MaxInt: 10 + math.MaxInt%11} {
		n, e := node.Open(disk.New(), 0, []int{0}, draw)
		ok(t, "Open", e)
		ticks(t, n, wait-1)
		if n.Raft().Role() != api.Follower {
			t.Errorf("the draw %d: it stands too early", draw)
		}
		ticks(t, n, 1)
		if n.Raft().Role() != api.Leader {
			t.Errorf("the draw %d: it does not stand", draw)
		}
	}
}

// Rule R1: at the greatest index there is an end of room, and at the greatest term nobody stands any more; what was kept stays.
func TestGreatest(t *testing.T) {
	d := disked{shot: shotOf(api.MaxTerm, 3, 1, 0)}.disk(t)
	n := opened(t, d, 0, 0)
	leads(t, n) // one entry
	for i := range wal.Wide - 1 {
		_, _, e := n.Propose(fmt.Sprint(i))
		ok(t, "Propose", e)
	}
	for is := true; is; {
		_, _, is = n.Next()
	}
	isKept(t, "a full segment", n, d, 0)
	was := of(n.Raft())
	is(t, "a snapshot that may not be", n.Compact(api.MaxTerm+1, "x"), api.ErrArg)
	if !of(n.Raft()).same(was) {
		t.Errorf("a snapshot that may not be: %v", of(n.Raft()))
	}
	for range 40 {
		n.Tick(0) // it would lead, if there were room for an entry
	}
	if _, _, e := n.Propose("more"); e == api.OK {
		t.Errorf("Propose beyond the greatest index")
	}
	if got := of(n.Raft()); !slices.Equal(got.entries, was.entries) || n.Raft() == nil {
		t.Errorf("beyond the greatest index: %v", got)
	}
	d = disked{log: true, term: api.MaxTerm, vote: -1}.disk(t)
	n = opened(t, d, 0, 0)
	changes := d.Changes()
	ticks(t, n, 100)
	if d.Changes() != changes || n.Raft().Role() != api.Follower {
		t.Errorf("the greatest term: %v", of(n.Raft()))
	}
}

// Rule R3: the members that are handed in are not kept.
func TestOpenSharesNothing(t *testing.T) {
	l := []int{0, 1, 2}
	d := disk.New()
	n, e := node.Open(d, 0, l, 0)
	ok(t, "Open", e)
	ticks(t, n, 9)
	l[1] = 5
	d.Room(d.Used())
	_, e = n.Tick(0)
	is(t, "without room", e, api.ErrFull)
	if got := n.Raft().Members(); !slices.Equal(got, []int{0, 1, 2}) {
		t.Errorf("Members: %v", got)
	}
	s, _ := n.Taken()
	s.Members[0] = 6
	if got := n.Raft().Base().Members; !slices.Equal(got, []int{0, 1, 2}) {
		t.Errorf("Base: %v", got)
	}
}

// Promise 11.2, and rule R1: a nil node, and one that no call made.
func TestNoNode(t *testing.T) {
	for _, n := range []*node.Node{nil, {}} {
		refuses(t, "no node", n, api.ErrArg)
		if n.Me() != -1 || n.Times() != 0 {
			t.Errorf("no node: Me %d, Times %d", n.Me(), n.Times())
		}
	}
}
