package node_test

import (
	"fmt"
	"slices"
	"strings"
	"testing"

	"stowage/api"
	"stowage/disk"
	"stowage/node"
)

// scene is a node that is about to be called, and what that does to its disk.
type scene struct {
	name    string
	a       disked
	me      int
	members []int
	ready   func(t *testing.T, n *node.Node)
	call    call
	does    []string
	told    int  // how many messages
	stuck   bool // with some room the snapshot is laid, but the log can not begin anew behind it
}

// The changes of a call, part by part.
var (
	setsHard = []string{"make hard.new", "sync", "make hard, remove hard.new", "sync"}
	hardAnew = []string{"make hard.new", "sync", "remove hard.new, write hard", "sync"}
	saves    = []string{"make snap.new", "sync", "make snap, remove snap.new", "sync"}
	snapAnew = []string{"make snap.new", "sync", "remove snap.new, write snap", "sync"}
)

// parts are changes one behind the other.
func parts(l ...[]string) []string { return slices.Concat(l...) }

// nothing, ticked and led are how a node is made ready.
func nothing(t *testing.T, n *node.Node) {}

func ticked(t *testing.T, n *node.Node) { ticks(t, n, 9) }

func led(t *testing.T, n *node.Node) { leads(t, n) }

// proposed is a leader, to which some commands came, all of which were handed out.
func proposed(count int) func(t *testing.T, n *node.Node) {
	return func(t *testing.T, n *node.Node) {
		leads(t, n)
		for i := range count {
			_, _, e := n.Propose(fmt.Sprint("command ", i))
			ok(t, "Propose", e)
		}
		for is := true; is; {
			_, _, is = n.Next()
		}
	}
}

// scenes are calls of each kind, with each part of what is to be kept, and with nothing.
func scenes(t *testing.T) []scene {
	three, alone := []int{0, 1, 2}, []int{1}
	twenty := disked{log: true, entries: entriesOf(many(1, 20)...), term: 2, vote: -1} // w.1, w.2 and w.3
	few := disked{log: true, entries: entriesOf(1, 1, 2), term: 2, vote: 0}
	voter := func(term int) api.Msg {
		return api.Msg{Kind: api.MsgVote, From: 2, To: 1, Term: term, Index: 3, LogTerm: 2}
	}
	voted := api.Msg{Kind: api.MsgVoted, From: 0, To: 1, Term: 3, Yes: true}
	other := entriesOf(slices.Concat(many(3, 4), many(4, 8))...)
	gone := []string{"make w.4", "sync", "remove w.1", "remove w.2", "remove w.3", "sync"}
	based := disked{log: true, index: 5, base: 1, entries: entriesOf(many(1, 9)...), term: 3, vote: 2}.with(shotOf(5, 1, 40, 0, 1, 2))
	wide := strings.Repeat("w", 200)
	big := strings.Repeat("b", api.MaxData)
	piece := func(term int, s api.Shot) api.Msg { return pieces(t, 0, 1, term, s)[0] }
	return []scene{
		{"a tick", disked{}, 1, three, nothing, tick(5), nil, 0, false},
		{"standing", disked{}, 1, three, ticked, tick(0), setsHard, 2, false},
		{"standing again", few, 1, three, ticked, tick(3), hardAnew, 2, false},
		{"leading alone", disked{}, 1, alone, ticked, tick(0), parts(setsHard, []string{"append w.1", "sync"}), 0, false},
		{"leading alone again", twenty, 1, alone, ticked, tick(0), parts(hardAnew, []string{"append w.3", "sync"}), 0, false},
		{"a vote", disked{log: true, entries: entriesOf(1, 1, 2), term: 2, vote: -1}, 1, three, nothing, step("a question of its term", voter(2)), hardAnew, 1, false},
		{"a vote of a greater term", few, 1, three, nothing, step("a question", voter(7)), hardAnew, 1, false},
		{"a vote that is not given", few, 1, three, nothing, step("a question of its term", voter(2)), nil, 1, false},
		{"a term", few, 1, three, nothing, step("an answer of a greater term", api.Msg{Kind: api.MsgVoted, From: 2, To: 1, Term: 4}), hardAnew, 0, false},
		{"being chosen", few, 1, three, func(t *testing.T, n *node.Node) { ticks(t, n, 10) }, step("a vote", voted), []string{"append w.1", "sync"}, 2, false},
		{"entries behind", few, 1, three, nothing, step("entries", laid(0, 1, 2, 3, 2, 0, entriesOf(2, 2)...)), []string{"append w.1", "sync"}, 1, false},
		{"entries behind, some of them there", few, 1, three, nothing, step("entries", laid(0, 1, 2, 1, 1, 5, append(entriesOf(1, 1, 2)[1:], entriesOf(2, 2, 2, 2, 2, 2, 2, 2)...)...)), []string{"append w.1", "make w.2", "sync"}, 1, false},
		{"entries that are there", few, 1, three, nothing, step("entries", laid(0, 1, 2, 0, 0, 2, entriesOf(1, 1, 2)...)), nil, 1, false},
		{"no entries", few, 1, three, nothing, step("no entries", laid(0, 1, 2, 3, 2, 3)), nil, 1, false},
		{"entries in the place of others", twenty, 1, three, nothing, step("entries", laid(0, 1, 4, 5, 1, 3, other...)), parts(hardAnew, []string{"remove w.3", "remove w.2", "cut w.1", "append w.1", "make w.2", "make w.3", "sync"}), 1, false},
		{"one entry in the place of some", twenty, 1, three, nothing, step("entries", laid(0, 1, 2, 17, 1, 3, api.Entry{Term: 2, Data: wide})), []string{"cut w.3", "append w.3", "sync"}, 1, false},
		{"all entries anew", few, 1, three, nothing, step("entries", laid(0, 1, 3, 0, 0, 0, entriesOf(3)...)), parts(hardAnew, []string{"cut w.1", "append w.1", "sync"}), 1, false},
		{"entries behind a snapshot", based, 1, three, nothing, step("entries", laid(0, 1, 3, 5, 1, 6, api.Entry{Term: 2, Data: wide}, api.Entry{Term: 3})), []string{"remove w.3", "cut w.2", "append w.2", "sync"}, 1, false},
		{"entries of many bytes", few, 1, three, nothing, step("entries", laid(0, 1, 2, 3, 2, 0, api.Entry{Term: 2, Data: big}, api.Entry{Term: 2, Data: big})), []string{"append w.1", "sync"}, 1, false},
		{"a snapshot within the log", twenty, 1, three, nothing, step("a snapshot", piece(2, shotOf(10, 1, 100, 0, 1))), parts(saves, []string{"remove w.1", "sync"}), 1, false},
		{"a snapshot within the first segment", twenty, 1, three, nothing, step("a snapshot", piece(2, shotOf(7, 1, 100, 0, 1))), saves, 1, false},
		{"a snapshot of the last entry", twenty, 1, three, nothing, step("a snapshot", piece(2, shotOf(20, 1, 100, 0, 1))), parts(saves, []string{"remove w.1", "remove w.2", "sync"}), 1, false},
		{"a snapshot behind the log", twenty, 1, three, nothing, step("a snapshot", piece(5, shotOf(30, 2, 100, 0, 1))), parts(hardAnew, saves, gone), 1, true},
		{"a snapshot of another term's entry", twenty, 1, three, nothing, step("a snapshot", piece(2, shotOf(10, 2, 100, 0, 1))), parts(saves, gone), 1, true},
		{"a snapshot in the place of one", based, 1, three, nothing, step("a snapshot", piece(3, shotOf(14, 1, 100, 0, 1))), parts(snapAnew, []string{"remove w.2", "sync"}), 1, false},
		{"a snapshot in the place of one, behind the log", based, 1, three, nothing, step("a snapshot", piece(3, shotOf(15, 1, 100, 0, 1))), parts(snapAnew, []string{"make w.4", "sync", "remove w.2", "remove w.3", "sync"}), 1, false},
		{"a piece of a snapshot", few, 1, three, nothing, step("a piece", piece(2, shotOf(30, 2, 2000, 0, 1))), nil, 1, false},
		{"a command", few, 1, three, led, propose("x"), []string{"append w.1", "sync"}, 2, false},
		{"a command alone", few, 1, alone, led, propose("x"), []string{"append w.1", "sync"}, 0, false},
		{"a command in a new segment", disked{log: true, entries: entriesOf(many(1, 15)...), term: 1, vote: 0}, 1, three, led, propose("x"), []string{"make w.3", "sync"}, 2, false},
		{"a long command", few, 1, three, led, propose(big), []string{"append w.1", "sync"}, 2, false},
		{"a command that is too long", few, 1, three, led, propose(big + "b"), nil, 0, false},
		{"a change", few, 1, alone, led, change(1, 4), []string{"append w.1", "sync"}, 1, false},
		{"a read", few, 1, alone, led, read(), nil, 0, false},
		{"a cut", disked{}, 1, alone, proposed(20), compact(10, strings.Repeat("c", 100)), parts(saves, []string{"remove w.1", "sync"}), 0, false},
		{"a cut of all", disked{}, 1, alone, proposed(20), compact(21, strings.Repeat("c", 100)), parts(saves, []string{"remove w.1", "remove w.2", "sync"}), 0, false},
		{"a cut with much", disked{}, 1, alone, proposed(5), compact(1, strings.Repeat("c", api.MaxShot)), saves, 0, false},
		{"a cut again", based, 1, alone, alonePast, compact(12, strings.Repeat("c", 100)), snapAnew, 0, false},
	}
}

// alonePast is a node that becomes the only member by its log, and whose entries were handed out.
func alonePast(t *testing.T, n *node.Node) {
	l := append(entriesOf(many(3, 1)...), says(3, 1, 2), says(3, 1))
	stepped(t, "entries", n, laid(0, 1, 3, 14, 1, 17, l...))
	for is := true; is; {
		_, _, is = n.Next()
	}
}

// fresh is a scene's node ahead of the call, and its disk.
func (c scene) fresh(t *testing.T, d *disk.Disk) (*disk.Disk, *node.Node) {
	t.Helper()
	d = d.Clone()
	n, e := node.Open(d, c.me, c.members, 0)
	ok(t, c.name+": Open", e)
	c.ready(t, n)
	return d, n
}

// Promise 11.1, and what it is to keep: which changes each call does to the disk, in their order; what is new is kept, and told.
func TestScenes(t *testing.T) {
	for _, c := range scenes(t) {
		d := c.a.disk(t)
		got := trace(func() (*disk.Disk, func()) {
			one, n := c.fresh(t, d)
			return one, func() { c.call.do(n) }
		})
		if !slices.Equal(got, c.does) {
			t.Errorf("%s: %s: %q, not %q", c.name, c.call.name, got, c.does)
		}
		one, n := c.fresh(t, d)
		isKept(t, c.name+", ahead", n, one, c.members...)
		before := of(n.Raft())
		a := c.call.do(n)
		if wrong := strings.Contains(c.name, "too long"); wrong != (a.e == api.ErrLong) || !wrong && a.e != api.OK || len(a.told) != c.told || n.Times() != 0 {
			t.Errorf("%s: %s: told %d, %v", c.name, c.call.name, len(a.told), a.e)
		}
		isKept(t, c.name+", behind", n, one, c.members...)
		if after := of(n.Raft()); len(c.does) > 0 && after.same(before) || len(c.does) == 0 && !after.same(before) {
			t.Errorf("%s: %s: it was\n%v\nand is\n%v", c.name, c.call.name, before, after)
		}
	}
}

// mayBe tells whether a node may have this behind a call that was broken off, by what it had and what it was to have: the term first, then the snapshot, then entries, of which a beginning may be there.
func mayBe(before, after, found state) bool {
	if !found.sameHard(before) && !found.sameHard(after) {
		return false
	}
	if !sameShot(before.base, after.base) {
		if sameShot(found.base, before.base) {
			return slices.Equal(found.entries, before.entries)
		}
		return sameShot(found.base, after.base) && found.sameHard(after) && slices.Equal(found.entries, after.entries)
	}
	same := 0
	for same < min(len(before.entries), len(after.entries)) && before.entries[same] == after.entries[same] {
		same++
	}
	if !sameShot(found.base, before.base) || len(found.entries) < same {
		return false
	}
	if slices.Equal(found.entries, before.entries) {
		return true
	}
	return found.sameHard(after) && (begins(found.entries, before.entries) || begins(found.entries, after.entries))
}

// begins tells whether a list begins with another one.
func begins(l, whole []api.Entry) bool {
	return len(l) <= len(whole) && slices.Equal(l, whole[:len(l)])
}

// Promises 11.1, 11.3 and 11.4: the power fails at each change of each call.
func TestPowerAtEachChange(t *testing.T) {
	for _, c := range scenes(t) {
		d := c.a.disk(t)
		_, n := c.fresh(t, d)
		before := of(n.Raft())
		c.call.do(n)
		after := of(n.Raft())
		seen := 0
		for k := range changesOf(c.does) {
			for keep := range k + 2 {
				for _, torn := range []int{0, 1, 9, 10, 30, 1 << 30} {
					what := fmt.Sprintf("%s, the power fails at %d with %d and %d", c.name, k, keep, torn)
					one, n := c.fresh(t, d)
					one.Plan([]api.Fall{{At: one.Changes() + k, Keep: keep, Torn: torn}})
					if a := c.call.do(n); a.e != api.ErrDown || len(a.told) != 0 || a.index != 0 || a.round != 0 {
						t.Fatalf("%s: %v", what, a)
					}
					isDown(t, what, n, c.me, 0)
					one.Up()
					isDown(t, what+", up again", n, c.me, 0)
					found := behindLoss(t, what, one, c.me, c.members...)
					if !mayBe(before, after, found) {
						t.Fatalf("%s: it was\n%v\nwas to be\n%v\nand is\n%v", what, before, after, found)
					}
					if found.same(after) {
						seen++
					}
				}
			}
		}
		if len(c.does) > 0 && seen == 0 && !sameShot(before.base, after.base) {
			t.Errorf("%s: never as it was to be", c.name)
		}
	}
}

// changesOf is how many changes there are among steps.
func changesOf(steps []string) int {
	n := 0
	for _, s := range steps {
		if s != "sync" {
			n++
		}
	}
	return n
}

// Promise 11.1: the power fails between calls.
func TestPowerBetween(t *testing.T) {
	for _, c := range scenes(t) {
		for _, asked := range []call{c.call, tick(0), read(), propose("x"), compact(1, "x"), change(0), step("nothing", api.Msg{})} {
			d, n := c.fresh(t, c.a.disk(t))
			d.Fail(0, 0)
			if a := asked.do(n); a.e != api.ErrDown || len(a.told) != 0 {
				t.Fatalf("%s: %s: %v", c.name, asked.name, a)
			}
			d.Up()
			isDown(t, c.name+", up again", n, c.me, 0)
		}
		// Also where nothing was asked yet that answers an error.
		for i, ask := range []func(n *node.Node) bool{
			func(n *node.Node) bool { return n.Raft() == nil },
			func(n *node.Node) bool { return !n.Sure(3, 0) },
			func(n *node.Node) bool { _, _, is := n.Next(); return !is },
			func(n *node.Node) bool { _, is := n.Taken(); return !is },
		} {
			d, n := c.fresh(t, c.a.disk(t))
			d.Fail(0, 0)
			if !ask(n) {
				t.Fatalf("%s: asked %d: it is not down", c.name, i)
			}
			d.Up()
			isDown(t, c.name+", up again", n, c.me, 0)
		}
	}
}

// Promises 11.1, 11.2 and 11.4: room ends at each byte that each call needs, and is there again.
func TestRoomAtEachByte(t *testing.T) {
	for _, c := range scenes(t) {
		d := c.a.disk(t)
		_, n := c.fresh(t, d)
		before := of(n.Raft())
		c.call.do(n)
		after := of(n.Raft())
		full, down := 0, 0
		for _, extra := range extras(after) {
			what := fmt.Sprintf("%s, room for %d", c.name, extra)
			one, n := c.fresh(t, d)
			one.Room(one.Used() + extra)
			a := c.call.do(n)
			if a.e != api.OK && (len(a.told) != 0 || a.index != 0 || a.round != 0) || one.Waits() != 0 || one.Down() {
				t.Fatalf("%s: %v", what, a)
			}
			switch a.e {
			case api.OK, api.ErrLong:
				if n.Times() != 0 || !of(n.Raft()).same(after) || len(a.told) != c.told {
					t.Fatalf("%s: %v", what, a)
				}
				isKept(t, what, n, one, c.members...)
			case api.ErrFull:
				full++
				stoodAnew(t, what, n, one, c, before, after)
			case api.ErrDown:
				down++
				cannotStand(t, what, n, one, c, after)
			default:
				t.Fatalf("%s: %v", what, a)
			}
		}
		if (full > 0) != needsRoom(c.does) || (down > 0) != c.stuck {
			t.Errorf("%s: %d times full, %d times down", c.name, full, down)
		}
	}
}

// needsRoom tells whether changes need any.
func needsRoom(steps []string) bool {
	return slices.ContainsFunc(steps, func(s string) bool { return strings.HasPrefix(s, "make") || strings.HasPrefix(s, "append") })
}

// extras are how many bytes there is room for: each number of few, and some of many.
func extras(after state) []int {
	var l []int
	for i := range 400 {
		l = append(l, i)
	}
	size := len(after.base.Data)
	for _, e := range after.entries {
		size += len(e.Data)
	}
	for i := range 8 {
		l = append(l, 400+i*size/7)
	}
	return l
}

// stoodAnew asks that a node stood up from its disk for want of room, and goes on when there is some.
func stoodAnew(t *testing.T, what string, n *node.Node, d *disk.Disk, c scene, before, after state) {
	t.Helper()
	is := of(n.Raft())
	if r := n.Raft(); n.Times() != 1 || r.Role() != api.Follower || r.Leader() != -1 || r.Commit() != is.base.Index || n.Me() != c.me || n.Sure(is.term, 0) {
		t.Fatalf("%s: Times %d, Role %d, Leader %d, Commit %d", what, n.Times(), r.Role(), r.Leader(), r.Commit())
	}
	if !mayBe(before, after, is) {
		t.Fatalf("%s: it was\n%v\nwas to be\n%v\nand is\n%v", what, before, after, is)
	}
	isKept(t, what, n, d, c.members...)
	takes(t, what, n, is.base)
	handsNone(t, what, n)
	d.Room(-1)
	ticks(t, n, 9+10)
	if term, vote := n.Raft().Hard(); term != is.term+1 || vote != c.me {
		t.Fatalf("%s, room again: Hard: %d, %d", what, term, vote)
	}
	leads(t, n)
	i, _, e := n.Propose("more")
	ok(t, what, e)
	if len(n.Raft().Members()) == 1 {
		hands(t, what, n, is.base.Index+1, append(is.entries, noop(is.term+1), api.Entry{Term: is.term + 1, Data: "more"})...)
	}
	if last, _ := n.Raft().Last(); i != last || n.Times() != 1 {
		t.Fatalf("%s, room again: Propose: %d", what, i)
	}
	isKept(t, what, n, d, c.members...)
}

// cannotStand asks that a node is down for which there is not even room to stand up, and that it stands up from its disk when there is.
func cannotStand(t *testing.T, what string, n *node.Node, d *disk.Disk, c scene, after state) {
	t.Helper()
	isDown(t, what, n, c.me, 0)
	refusesOpen(t, what, d, c.me, c.members, api.ErrFull)
	d.Room(-1)
	isDown(t, what+", room again", n, c.me, 0)
	if is := of(opened(t, d, c.me, c.members...).Raft()); !is.same(after) {
		t.Fatalf("%s, room again: it was to be\n%v\nand is\n%v", what, after, is)
	}
}
