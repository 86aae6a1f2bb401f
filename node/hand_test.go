package node_test

import (
	"fmt"
	"math"
	"strings"
	"testing"

	"stowage/api"
	"stowage/disk"
	"stowage/node"
)

// follower is a node that follows 0, with so many entries of the term 1.
func follower(t *testing.T, count int) (*node.Node, *disk.Disk) {
	t.Helper()
	d := disked{log: true, entries: entriesOf(many(1, count)...), term: 2, vote: -1}.disk(t)
	return opened(t, d, 1, 0, 1, 2), d
}

// commits lets a leader tell a node, which has entries of the term 1 up to last, up to where they are committed.
func commits(t *testing.T, n *node.Node, last, commit int) {
	t.Helper()
	stepped(t, "commits", n, laid(0, 1, 2, last, 1, commit))
	if n.Raft().Commit() != commit {
		t.Fatalf("committed %d, not %d", n.Raft().Commit(), commit)
	}
}

// Promises 11.2 and 11.5: entries are handed out in order, each once, as far as they are committed.
func TestNext(t *testing.T) {
	n, _ := follower(t, 20)
	l := entriesOf(many(1, 20)...)
	handsNone(t, "nothing is committed", n)
	commits(t, n, 20, 3)
	hands(t, "three", n, 1, l[:3]...)
	commits(t, n, 20, 3)
	handsNone(t, "nothing more", n)
	commits(t, n, 20, 4)
	hands(t, "one more", n, 4, l[3])
	commits(t, n, 20, 18)
	if e, i, is := n.Next(); !is || i != 5 || e != l[4] {
		t.Errorf("Next: %v, %d, %v", e, i, is)
	}
	takesNone(t, "no snapshot", n)
	commits(t, n, 20, 20)
	hands(t, "the rest", n, 6, l[5:]...)
}

// Promises 11.2 and 11.5: a snapshot of its own makes nothing be handed out again, and none is told.
func TestNextBehindCompact(t *testing.T) {
	n, d := follower(t, 20)
	l := entriesOf(many(1, 20)...)
	commits(t, n, 20, 15)
	for i := range 12 {
		if _, at, is := n.Next(); !is || at != i+1 {
			t.Fatalf("Next: %d, %v", at, is)
		}
	}
	ok(t, "Compact", n.Compact(10, "ten"))
	takesNone(t, "Compact", n)
	hands(t, "behind Compact", n, 13, l[12:15]...)
	ok(t, "Compact", n.Compact(15, "fifteen"))
	commits(t, n, 20, 17)
	hands(t, "behind Compact", n, 16, l[15:17]...)
	d.Fail(0, 0)
	d.Up()
	// Who stands up begins behind its base, and is told nothing of it.
	n = opened(t, d, 1, 0, 1, 2)
	takesNone(t, "standing up", n)
	handsNone(t, "standing up", n)
	if n.Raft().Base().Data != "fifteen" {
		t.Errorf("Base: %v", n.Raft().Base())
	}
	commits(t, n, 20, 18)
	hands(t, "standing up", n, 16, l[15:18]...)
}

// Promise 11.1: Compact up to what was handed out, and beyond it; which of two errors is told.
func TestCompactBounds(t *testing.T) {
	long, much := strings.Repeat("d", api.MaxShot), strings.Repeat("d", api.MaxShot+1)
	n, d := follower(t, 20)
	commits(t, n, 20, 12)
	changes := d.Changes()
	refuse := func(what string, index int) {
		t.Helper()
		for _, data := range []string{"", "x", long, much} {
			is(t, what, n.Compact(index, data), api.ErrArg)
		}
	}
	for _, index := range []int{1, 12, 0, -1, 13, 20, 21, math.MinInt, math.MaxInt} {
		refuse("nothing was handed out", index)
	}
	for handed := 1; handed <= 12; handed++ {
		n.Next()
		refuse("one beyond", handed+1)
		is(t, "too long", n.Compact(handed, much), api.ErrLong)
		if d.Changes() != changes {
			t.Fatalf("an error: %d changes", d.Changes()-changes)
		}
	}
	ok(t, "Compact", n.Compact(7, long))
	for _, index := range []int{7, 6, 0, -1, 13, 20, math.MinInt, math.MaxInt} {
		refuse("Compact again", index)
	}
	is(t, "too long", n.Compact(8, much), api.ErrLong)
	ok(t, "Compact", n.Compact(12, ""))
	refuse("all", 12)
	if b := n.Raft().Base(); b.Index != 12 || b.Term != 1 || b.Data != "" || n.Times() != 0 {
		t.Errorf("Base: %v", b)
	}
}

// Promise 11.2: a snapshot from a leader, behind or within the log, is told once, ahead of all that comes behind it; what it stands for is not handed out any more.
func TestTaken(t *testing.T) {
	l := entriesOf(many(1, 20)...)
	for _, handed := range []int{0, 3, 5} {
		for _, s := range []api.Shot{shotOf(10, 1, 3000, 0, 1, 2), shotOf(20, 1, 10, 0, 1, 2), shotOf(10, 2, 10, 0, 1, 2), shotOf(30, 2, 0, 0, 1, 2)} {
			what := fmt.Sprintf("%d handed out, a snapshot of %d, %d", handed, s.Index, s.Term)
			n, _ := follower(t, 20)
			commits(t, n, 20, 5)
			for range handed {
				n.Next()
			}
			all := pieces(t, 0, 1, 2, s)
			stepped(t, what, n, all[:len(all)-1]...)
			takesNone(t, what+", but for the last piece", n)
			stepped(t, what, n, all[len(all)-1])
			is(t, what, n.Compact(s.Index, ""), api.ErrArg)
			is(t, what, n.Compact(s.Index-1, ""), api.ErrArg)
			takes(t, what, n, s)
			handsNone(t, what, n)
			stepped(t, what+", the pieces again", n, all...)
			takesNone(t, what+", the pieces again", n)
			if s.Index == 10 && s.Term == 1 {
				commits(t, n, 20, 13)
				hands(t, what, n, 11, l[10:13]...)
				ok(t, what, n.Compact(13, "thirteen"))
				continue
			}
			stepped(t, what, n, laid(0, 1, 2, s.Index, s.Term, s.Index+1, api.Entry{Term: 2, Data: "a"}, api.Entry{Term: 2, Data: "b"}))
			hands(t, what, n, s.Index+1, api.Entry{Term: 2, Data: "a"})
			is(t, what, n.Compact(s.Index+2, ""), api.ErrArg)
			ok(t, what, n.Compact(s.Index+1, "more"))
		}
	}
}

// Promise 11.2: as long as a snapshot is not told, no entry is, however many come; of several the last one is told.
func TestTakenLate(t *testing.T) {
	n, d := follower(t, 20)
	one, two := shotOf(10, 1, 10, 0, 1, 2), shotOf(15, 1, 10, 0, 1, 2)
	stepped(t, "a snapshot", n, pieces(t, 0, 1, 2, one)...)
	commits(t, n, 20, 13)
	for range 3 {
		handsNone(t, "ahead of Taken", n)
	}
	for index := 9; index <= 14; index++ {
		is(t, "ahead of Taken", n.Compact(index, "x"), api.ErrArg)
	}
	stepped(t, "another snapshot", n, pieces(t, 0, 1, 2, two)...)
	handsNone(t, "ahead of Taken", n)
	takes(t, "two snapshots", n, two)
	commits(t, n, 20, 17)
	hands(t, "two snapshots", n, 16, entriesOf(many(1, 20)...)[15:17]...)
	// Who stands up with it in the meantime is told nothing: it has it.
	stepped(t, "a snapshot", n, pieces(t, 0, 1, 2, shotOf(19, 1, 10, 0, 1, 2))...)
	d.Fail(0, 0)
	handsNone(t, "down", n)
	takesNone(t, "down", n)
	d.Up()
	n = opened(t, d, 1, 0, 1, 2)
	takesNone(t, "standing up", n)
	commits(t, n, 20, 20)
	hands(t, "standing up", n, 20, entriesOf(many(1, 20)...)[19])
}

// Promise 11.2: who stood up anew for want of room begins with its snapshot, even with one of nothing, and is handed out all behind it again.
func TestTakenForRoom(t *testing.T) {
	d := disk.New()
	n := opened(t, d, 1, 1)
	leads(t, n)
	x := api.Entry{Term: 1, Data: "x"}
	n.Propose("x")
	hands(t, "it leads", n, 1, noop(1), x)
	want := api.Shot{Members: []int{1}}
	for times := 1; times <= 3; times++ {
		d.Room(d.Used())
		_, _, e := n.Propose("y")
		is(t, "without room", e, api.ErrFull)
		if n.Times() != times || n.Raft().Role() != api.Follower {
			t.Fatalf("without room: Times %d", n.Times())
		}
		takes(t, "without room", n, want)
		handsNone(t, "without room", n)
		d.Room(-1)
		leads(t, n)
		l := []api.Entry{noop(1), x, noop(2), noop(3), noop(4)}
		hands(t, "room again", n, want.Index+1, l[want.Index:2+times]...)
		if times == 2 {
			ok(t, "Compact", n.Compact(3, "three"))
			want = api.Shot{Index: 3, Term: 2, Members: []int{1}, Data: "three"}
		}
	}
}

// Promise 11.2: a snapshot that was not told yet, and one for want of room, are told as one.
func TestTakenOnce(t *testing.T) {
	n, d := follower(t, 20)
	s := shotOf(10, 1, 10, 0, 1, 2)
	stepped(t, "a snapshot", n, pieces(t, 0, 1, 2, s)...)
	d.Room(d.Used())
	_, e := n.Step(laid(0, 1, 2, 20, 1, 0, entriesOf(2)...))
	is(t, "without room", e, api.ErrFull)
	takes(t, "both", n, s)
	handsNone(t, "both", n)
	// And one that comes ahead of the other one's being told.
	d.Room(d.Used())
	_, e = n.Step(laid(0, 1, 2, 20, 1, 0, entriesOf(2)...))
	is(t, "without room", e, api.ErrFull)
	d.Room(-1)
	s = shotOf(12, 1, 10, 0, 1, 2)
	stepped(t, "a snapshot", n, pieces(t, 0, 1, 2, s)...)
	takes(t, "both", n, s)
	// One for which there is no room is none.
	d.Room(d.Used())
	_, e = n.Step(pieces(t, 0, 1, 2, shotOf(14, 1, 10, 0, 1, 2))[0])
	is(t, "without room", e, api.ErrFull)
	takes(t, "without room", n, s)
	if n.Times() != 3 {
		t.Errorf("Times: %d", n.Times())
	}
}

// What it is to keep: who stands up anew for want of room waits by the draw that came last.
func TestDrawAnew(t *testing.T) {
	waits := func(what string, n *node.Node, d *disk.Disk, wait int) {
		t.Helper()
		takes(t, what, n, api.Shot{Members: []int{0, 1, 2}})
		d.Room(-1)
		for i := 1; i <= wait; i++ {
			term, _ := n.Raft().Hard()
			_, e := n.Tick(0)
			ok(t, what, e)
			if now, _ := n.Raft().Hard(); (now > term) != (i == wait) {
				t.Fatalf("%s: it stands, or not, in the tick %d of %d", what, i, wait)
			}
		}
	}
	for _, draw := range []int{0, 4, 10, -3} {
		wait := 10 + (draw%11+11)%11
		// The draw of Open, as no tick came.
		d := disk.New()
		n, e := node.Open(d, 1, []int{0, 1, 2}, draw)
		ok(t, "Open", e)
		d.Room(d.Used())
		_, e = n.Step(api.Msg{Kind: api.MsgVote, From: 0, To: 1, Term: 1})
		is(t, "without room", e, api.ErrFull)
		waits(fmt.Sprint("the draw of Open ", draw), n, d, wait)
		// That of the last tick.
		d = disk.New()
		n = opened(t, d, 1, 0, 1, 2)
		n.Tick(draw + 1)
		n.Tick(draw)
		d.Room(d.Used())
		_, e = n.Step(api.Msg{Kind: api.MsgVote, From: 0, To: 1, Term: 1})
		is(t, "without room", e, api.ErrFull)
		waits(fmt.Sprint("the draw of a tick ", draw), n, d, wait)
		// That of the tick itself that finds no room.
		d = disk.New()
		n = opened(t, d, 1, 0, 1, 2)
		ticks(t, n, 9)
		d.Room(d.Used())
		_, e = n.Tick(draw)
		is(t, "without room", e, api.ErrFull)
		waits(fmt.Sprint("the draw of the tick ", draw), n, d, wait)
	}
}

// Promise 11.3: a vote that was given is not given to another one behind a loss of power, nor a term that is over led in again.
func TestVotesOnce(t *testing.T) {
	d := disk.New()
	n := opened(t, d, 1, 0, 1, 2)
	ask := func(from, term int) bool {
		t.Helper()
		told := stepped(t, "a question", n, api.Msg{Kind: api.MsgVote, From: from, To: 1, Term: term})
		return len(told) == 1 && told[0].Yes
	}
	again := func() {
		t.Helper()
		d.Fail(0, 0)
		d.Up()
		n = opened(t, d, 1, 0, 1, 2)
	}
	if !ask(0, 3) {
		t.Errorf("no vote for 0")
	}
	again()
	if ask(2, 3) || ask(2, 2) || !ask(0, 3) {
		t.Errorf("a vote for another one")
	}
	again()
	ticks(t, n, 10)
	if term, vote := n.Raft().Hard(); term != 4 || vote != 1 {
		t.Errorf("it stands in %d, for %d", term, vote)
	}
	again()
	if ask(0, 4) || ask(2, 4) || !ask(2, 5) {
		t.Errorf("it voted for itself in the term 4")
	}
}

// Rule R3: what is answered is of its own memory.
func TestSharesNothing(t *testing.T) {
	d := disk.New()
	n := opened(t, d, 0, 0, 1)
	leads(t, n)
	_, told, _ := n.Propose("mine")
	told[0].Entries[len(told[0].Entries)-1].Data = "changed"
	if e, _ := n.Raft().Entry(2); e.Data != "mine" {
		t.Errorf("an entry: %v", e)
	}
	isKept(t, "Propose", n, d, 0, 1)
	m := laid(1, 0, 5, 0, 0, 1, entriesOf(5, 5)...)
	stepped(t, "entries", n, m)
	m.Entries[0].Data = "changed"
	hands(t, "entries", n, 1, entriesOf(5)...)
	l := []int{0}
	n = opened(t, disk.New(), 0, 0)
	leads(t, n)
	n.Change(append(l, 1))
	if s := n.Raft().Base(); len(s.Members) != 1 {
		t.Errorf("Base: %v", s)
	}
}
