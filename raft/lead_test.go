package raft_test

import (
	"fmt"
	"math"
	"slices"
	"strings"
	"testing"

	"stowage/api"
	"stowage/conf"
	"stowage/raft"
)

// three is a leader of three members in the term 1, whose first entry all have.
func three(t *testing.T) *raft.Node {
	t.Helper()
	n := made(t, 0, 0, -1, first(0, 1, 2))
	leads(t, n)
	n.Step(yes(1, 0, 1, 1, 0))
	n.Step(yes(2, 0, 1, 1, 0))
	has(t, "three", n, 1, noop(1))
	return n
}

// data is a command's entry.
func data(term int, s string) api.Entry {
	return api.Entry{Term: term, Data: s}
}

// proposes asks that a command is laid: what is told.
func proposes(t *testing.T, n *raft.Node, s string, index int) []api.Msg {
	t.Helper()
	i, l, e := n.Propose(s)
	if i != index || e != api.OK {
		t.Errorf("Propose: %d, %v, not %d", i, e, index)
	}
	return l
}

// changes asks that a configuration is laid: what is told.
func changes(t *testing.T, n *raft.Node, index int, l ...int) []api.Msg {
	t.Helper()
	i, told, e := n.Change(l)
	if i != index || e != api.OK {
		t.Errorf("Change to %v: %d, %v, not %d", l, i, e, index)
	}
	members(t, "Change", n, l...)
	return told
}

// reads asks that a read is told: its round, and what is told.
func reads(t *testing.T, n *raft.Node, round, index int) []api.Msg {
	t.Helper()
	r, i, told, e := n.Read()
	if r != round || i != index || e != api.OK {
		t.Errorf("Read: %d, %d, %v, not %d, %d", r, i, e, round, index)
	}
	return told
}

// Promise 10.2: Propose's errors, and which of two is told.
func TestProposeErrors(t *testing.T) {
	long := strings.Repeat("d", mostData+1)
	n := made(t, 0, 0, -1, first(0, 1))
	for range 2 {
		for _, s := range []string{"", "x", long} {
			if i, l, e := n.Propose(s); i != 0 || len(l) != 0 || e != api.ErrLeader {
				t.Errorf("Propose at one that does not lead: %d, %v, %v", i, l, e)
			}
		}
		ticks(n, 10, 0)
		is(t, "a candidate", n, api.Candidate, -1)
	}
	n = three(t)
	if i, l, e := n.Propose(long); i != 0 || len(l) != 0 || e != api.ErrLong {
		t.Errorf("Propose of too much: %d, %v, %v", i, l, e)
	}
	has(t, "Propose of too much", n, 1, noop(1))
	proposes(t, n, long[1:], 2)
	proposes(t, n, "", 3)
	has(t, "Propose", n, 1, noop(1), data(1, long[1:]), data(1, ""))
}

// What nodes do: what is laid is told to all others, from what they lack on.
func TestTellsEntries(t *testing.T) {
	n := made(t, 0, 3, -1, first(0, 1, 2), of(2, 3)...)
	log := append(of(2, 3), noop(4))
	tells(t, "it leads", leads(t, n), entries(0, 1, 4, 2, 3, 0, 0, log[2]), entries(0, 2, 4, 2, 3, 0, 0, log[2]))
	tells(t, "nothing is known of them", proposes(t, n, "x", 4), entries(0, 1, 4, 2, 3, 0, 0, log[2], data(4, "x")), entries(0, 2, 4, 2, 3, 0, 0, log[2], data(4, "x")))
	log = append(log, data(4, "x"))
	tells(t, "one lacks all", n.Step(no(1, 0, 4, 0, 0)), entries(0, 1, 4, 0, 0, 0, 0, log...))
	tells(t, "it has a part", n.Step(yes(1, 0, 4, 2, 0)), entries(0, 1, 4, 2, 3, 0, 0, log[2:]...))
	tells(t, "it has all, which is committed", n.Step(yes(1, 0, 4, 4, 0)), entries(0, 1, 4, 4, 4, 4, 0), entries(0, 2, 4, 2, 3, 4, 0, log[2:]...))
	has(t, "committed", n, 4, log...)
	tells(t, "it has all, again", n.Step(yes(1, 0, 4, 4, 0)))
	tells(t, "an answer of late", n.Step(yes(1, 0, 4, 2, 0)))
	tells(t, "the other one has all", n.Step(yes(2, 0, 4, 4, 0)))
	tells(t, "another command", proposes(t, n, "y", 5), entries(0, 1, 4, 4, 4, 4, 0, data(4, "y")), entries(0, 2, 4, 4, 4, 4, 0, data(4, "y")))
	// Answers of another term, of such that are no members, and of what is not there.
	for _, m := range []api.Msg{yes(1, 0, 3, 5, 0), yes(1, 0, 0, 5, 0), yes(4, 0, 4, 5, 0), no(4, 0, 4, 1, 0), voted(1, 0, 4, true), voted(2, 0, 4, false)} {
		tells(t, "no answer to it", n.Step(m))
		has(t, "no answer to it", n, 4, append(log, data(4, "y"))...)
	}
	n.Step(yes(1, 0, 4, 6, 0))
	n.Step(yes(2, 0, 4, most, 0))
	has(t, "more than there is", n, 4, append(log, data(4, "y"))...)
}

// What nodes do: a No is gone back to, also behind a Yes; one beyond the end is none.
func TestGoesBack(t *testing.T) {
	n := made(t, 0, 3, -1, first(0, 1, 2), of(1, 2, 3)...)
	leads(t, n)
	log := append(of(1, 2, 3), noop(4))
	for _, at := range []int{2, 1, 0, 1, 2, 3} {
		ahead := 0
		if at > 0 {
			ahead = log[at-1].Term
		}
		tells(t, fmt.Sprint("a No at ", at), n.Step(no(1, 0, 4, at, 0)), entries(0, 1, 4, at, ahead, 0, 0, log[at:]...))
	}
	for _, at := range []int{4, 5, most} {
		tells(t, fmt.Sprint("a No at ", at), n.Step(no(1, 0, 4, at, 0)), entries(0, 1, 4, 4, 4, 0, 0))
	}
	has(t, "a No", n, 0, log...)
}

// What nodes do: up to Many entries at one time, and about Bulk bytes, but one at least.
func TestBulk(t *testing.T) {
	for _, c := range []struct {
		sizes []int
		least int
		most  int
	}{
		{slices.Repeat([]int{0}, 40), 16, 16}, {slices.Repeat([]int{1}, 15), 16, 16}, {slices.Repeat([]int{1}, 14), 15, 15}, {slices.Repeat([]int{2048}, 40), 15, 16}, {slices.Repeat([]int{8192}, 40), 3, 5}, {slices.Repeat([]int{65536}, 3), 1, 1},
		{[]int{32768, 1, 1}, 1, 3}, {[]int{1, 65536, 1}, 1, 2}, {slices.Repeat([]int{20000}, 5), 1, 2},
	} {
		var l []api.Entry
		for _, size := range c.sizes {
			l = append(l, data(1, strings.Repeat("d", size)))
		}
		n := made(t, 0, 1, -1, first(0, 1), l...)
		leads(t, n)
		told := n.Step(no(1, 0, 2, 0, 0))
		if len(told) != 1 || len(told[0].Entries) < c.least || len(told[0].Entries) > c.most {
			t.Errorf("of %d entries of %d bytes %s are told", len(l), c.sizes[0], brief(told))
			continue
		}
		if !slices.Equal(told[0].Entries, append(l, noop(2))[:len(told[0].Entries)]) {
			t.Errorf("of %d entries of %d bytes others are told", len(l), c.sizes[0])
		}
		// So long as there is more, it goes on, and nothing is left out.
		b := made(t, 1, 0, -1, first(0, 1))
		for steps := 0; len(told) > 0 && steps < 200; steps++ {
			m := told[0]
			to := n
			if m.To == 1 {
				to = b
			}
			told = append(told[1:], to.Step(m)...)
		}
		has(t, "all that was told", b, len(l)+1, append(l, noop(2))...)
	}
}

// What nodes do: each three ticks, with a greater round.
func TestBeats(t *testing.T) {
	n := three(t)
	for round := 1; round < 5; round++ {
		tells(t, "ahead of a beat", ticks(n, 2, 7))
		tells(t, "a beat", n.Tick(7), entries(0, 1, 1, 1, 1, 1, round), entries(0, 2, 1, 1, 1, 1, round))
	}
	proposes(t, n, "x", 2)
	tells(t, "ahead of a beat", ticks(n, 2, 7))
	tells(t, "a beat with what is lacking", n.Tick(7), entries(0, 1, 1, 1, 1, 1, 5, data(1, "x")), entries(0, 2, 1, 1, 1, 1, 5, data(1, "x")))
	n = made(t, 0, 0, -1, first(0))
	leads(t, n)
	tells(t, "alone", ticks(n, 50, 0))
	is(t, "alone", n, api.Leader, 0)
}

// What nodes do: a majority of the members counts, and nothing is committed behind which no entry of the leader's term stands.
func TestLeaderCommits(t *testing.T) {
	n := made(t, 0, 3, -1, first(0, 1, 2, 3, 4), of(2, 3)...)
	leads(t, n)
	log := append(of(2, 3), noop(4))
	for _, m := range []api.Msg{yes(1, 0, 4, 2, 0), yes(2, 0, 4, 2, 0), yes(3, 0, 4, 2, 0), yes(4, 0, 4, 2, 0), yes(1, 0, 4, 3, 0), yes(1, 0, 4, 3, 0), yes(5, 0, 4, 3, 0), yes(6, 0, 4, 3, 0), no(2, 0, 4, 3, 0)} {
		n.Step(m)
		has(t, "no majority has one of its term", n, 0, log...)
	}
	n.Step(yes(4, 0, 4, 3, 0))
	has(t, "a majority has", n, 3, log...)
	for _, size := range []int{1, 2, 3, 4, 5, 6, 7} {
		var l []int
		for i := range size {
			l = append(l, i)
		}
		n := made(t, 0, 0, -1, first(l...))
		leads(t, n)
		for i := 1; i < size; i++ {
			want := 0
			if 2*i > size {
				want = 1
			}
			has(t, fmt.Sprintf("%d of %d", i, size), n, want, noop(1))
			n.Step(yes(i, 0, 1, 1, 0))
		}
		has(t, fmt.Sprintf("all of %d", size), n, 1, noop(1))
	}
}

// Promise 10.2: Change's errors, and which of two is told.
func TestChangeErrors(t *testing.T) {
	fails := func(what string, n *raft.Node, want api.Errno, l ...int) {
		t.Helper()
		was := entriesOf(n)
		before := n.Members()
		if i, told, e := n.Change(l); i != 0 || len(told) != 0 || e != want {
			t.Errorf("%s: Change to %v: %d, %v, %v", what, l, i, told, e)
		}
		has(t, what, n, n.Commit(), was...)
		members(t, what, n, before...)
	}
	n := made(t, 0, 0, -1, first(0, 1, 2))
	fails("a follower", n, api.ErrLeader, 0, 1)
	fails("a follower", n, api.ErrLeader)
	ticks(n, 10, 0)
	fails("a candidate", n, api.ErrLeader, 0, 1)
	leads(t, n)
	fails("nothing of its term is committed", n, api.ErrBusy, 0, 1)
	fails("no neighbours", n, api.ErrConf, 0)
	n.Step(yes(1, 0, 1, 1, 0))
	for _, l := range [][]int{nil, {}, {0, 1, 2}, {0}, {0, 1, 2, 3, 4}, {0, 1, 3}, {0, 2, 1, 3}, {0, 1, 2, 7}, {-1, 0, 1, 2}, {0, 0, 1, 2}, {2, 1}, {0, 1, 2, 3, 4, 5, 6, 7}, {3, 4}} {
		fails("no neighbours", n, api.ErrConf, l...)
	}
	changes(t, n, 2, 0, 1, 2, 3)
	fails("one is not committed", n, api.ErrBusy, 0, 1, 2)
	fails("one is not committed", n, api.ErrBusy, 0, 1, 2, 3, 4)
	fails("one is not committed", n, api.ErrConf, 0, 1)
	n.Step(yes(1, 0, 1, 2, 0))
	fails("two of four", n, api.ErrBusy, 0, 1, 2)
	n.Step(yes(3, 0, 1, 2, 0))
	changes(t, n, 3, 0, 1, 3)
	// A leader with one that an earlier one laid.
	n = made(t, 0, 3, -1, first(0, 1, 2), of(1)[0], says(3, 0, 1, 2, 4), of(3)[0])
	leads(t, n)
	fails("a configuration of another leader", n, api.ErrBusy, 0, 1, 2)
	n.Step(yes(1, 0, 4, 3, 0))
	n.Step(yes(2, 0, 4, 3, 0))
	fails("nothing of its term is committed", n, api.ErrBusy, 0, 1, 2)
	n.Step(yes(1, 0, 4, 4, 0))
	n.Step(yes(2, 0, 4, 4, 0))
	has(t, "committed", n, 4, of(1)[0], says(3, 0, 1, 2, 4), of(3)[0], noop(4))
	changes(t, n, 5, 0, 1, 2)
	// Data of another kind, or that is no configuration, is none that waits.
	broken := says(1, 0, 1)
	broken.Data += "x"
	n = made(t, 0, 1, -1, first(0), broken)
	leads(t, n)
	n.Step(api.Msg{})
	changes(t, n, 3, 0, 6)
}

// What nodes do: a member that is new is told all; a majority is one of the members that are laid.
func TestAddsMember(t *testing.T) {
	n := made(t, 0, 0, -1, first(0))
	leads(t, n)
	log := []api.Entry{noop(1), data(1, "x"), says(1, 0, 3)}
	proposes(t, n, "x", 2)
	ticks(n, 200, 0)
	tells(t, "a new member", changes(t, n, 3, 0, 3), entries(0, 3, 1, 2, 1, 2, 66, log[2]))
	has(t, "a new member", n, 2, log...)
	ticks(n, 20, 0)
	is(t, "a new member that says nothing for 20 ticks", n, api.Leader, 0)
	tells(t, "it has nothing", n.Step(no(3, 0, 1, 0, 0)), entries(0, 3, 1, 0, 0, 2, 73, log...))
	tells(t, "it has all", n.Step(yes(3, 0, 1, 3, 0)), entries(0, 3, 1, 3, 1, 3, 73))
	has(t, "it has all", n, 3, log...)
	// One that goes and comes again is known anew.
	changes(t, n, 4, 0)
	has(t, "it goes", n, 4, append(log, says(1, 0))...)
	proposes(t, n, "y", 5)
	tells(t, "it comes again", changes(t, n, 6, 0, 3), entries(0, 3, 1, 5, 1, 5, 73, says(1, 0, 3)))
	has(t, "it comes again", n, 5, append(log, says(1, 0), data(1, "y"), says(1, 0, 3))...)
	n.Step(yes(3, 0, 1, 6, 0))
	has(t, "it has all again", n, 6, append(log, says(1, 0), data(1, "y"), says(1, 0, 3))...)
}

// What nodes do: a member that goes is told nothing more, and counts no more.
func TestDropsMember(t *testing.T) {
	n := three(t)
	tells(t, "a member goes", changes(t, n, 2, 0, 1), entries(0, 1, 1, 1, 1, 1, 0, says(1, 0, 1)))
	tells(t, "it answers", n.Step(yes(2, 0, 1, 2, 0)))
	tells(t, "it answers No", n.Step(no(2, 0, 1, 0, 0)))
	has(t, "it answers", n, 1, noop(1), says(1, 0, 1))
	tells(t, "the other one has it", n.Step(yes(1, 0, 1, 2, 0)), entries(0, 1, 1, 2, 1, 2, 0))
	has(t, "the other one has it", n, 2, noop(1), says(1, 0, 1))
	// The last but one goes: the leader is alone, and what it lays is committed at once.
	tells(t, "the other one goes", changes(t, n, 3, 0))
	has(t, "the other one goes", n, 3, noop(1), says(1, 0, 1), says(1, 0))
	is(t, "the other one goes", n, api.Leader, 0)
}

// What nodes do: a leader that is no member any more leads until that is committed, which all others are told; it does not count itself.
func TestLeavesItself(t *testing.T) {
	n := three(t)
	entry := says(1, 1, 2)
	tells(t, "it goes itself", changes(t, n, 2, 1, 2), entries(0, 1, 1, 1, 1, 1, 0, entry), entries(0, 2, 1, 1, 1, 1, 0, entry))
	is(t, "it goes itself", n, api.Leader, 0)
	tells(t, "one of two has it", n.Step(yes(1, 0, 1, 2, 0)))
	is(t, "one of two has it", n, api.Leader, 0)
	has(t, "one of two has it", n, 1, noop(1), entry)
	proposes(t, n, "x", 3)
	tells(t, "both have it", n.Step(yes(2, 0, 1, 2, 0)), entries(0, 1, 1, 2, 1, 2, 0, data(1, "x")), entries(0, 2, 1, 2, 1, 2, 0, data(1, "x")))
	is(t, "both have it", n, api.Follower, -1)
	hard(t, "both have it", n, 1, 0)
	has(t, "both have it", n, 2, noop(1), entry, data(1, "x"))
	tells(t, "it is no member", ticks(n, 100, 0))
	is(t, "it is no member", n, api.Follower, -1)
	if _, _, e := n.Propose("y"); e != api.ErrLeader {
		t.Errorf("Propose: %v", e)
	}
	// So also one that stood with such a configuration in its log.
	n = made(t, 0, 1, -1, first(0, 1), says(1, 1))
	leads(t, n)
	is(t, "it stands with it", n, api.Leader, 0)
	tells(t, "its own entry is committed", n.Step(yes(1, 0, 2, 2, 0)), entries(0, 1, 2, 2, 2, 2, 0))
	is(t, "its own entry is committed", n, api.Follower, -1)
	hard(t, "its own entry is committed", n, 2, 0)
	has(t, "its own entry is committed", n, 2, says(1, 1), noop(2))
}

// What nodes do: a leader that hears no majority for more than 20 ticks follows; each answer of a member and of its term counts.
func TestQuiet(t *testing.T) {
	n := three(t)
	ticks(n, 20, 5)
	is(t, "20 ticks", n, api.Leader, 0)
	tells(t, "21 ticks", n.Tick(5))
	is(t, "21 ticks", n, api.Follower, -1)
	hard(t, "21 ticks", n, 1, 0)
	if got := over(n, 0); got != 15 {
		t.Errorf("behind leading it waits %d ticks", got)
	}
	for _, m := range []api.Msg{yes(1, 0, 1, 1, 0), no(1, 0, 1, 0, 0), wants(1, 0, 1, 0), whole(1, 0, 1), voted(1, 0, 1, false)} {
		n := three(t)
		ticks(n, 15, 0)
		n.Step(m)
		ticks(n, 20, 0)
		is(t, fmt.Sprintf("an answer of the kind %d", m.Kind), n, api.Leader, 0)
		ticks(n, 1, 0)
		is(t, fmt.Sprintf("an answer of the kind %d", m.Kind), n, api.Follower, -1)
	}
	for _, m := range []api.Msg{yes(1, 0, 0, 0, 0), yes(3, 0, 1, 1, 0), vote(1, 0, 9, 9, 9), entries(1, 0, 0, 0, 0, 0, 0), voted(1, 0, 0, true)} {
		n := three(t)
		ticks(n, 15, 0)
		n.Step(m)
		ticks(n, 6, 0)
		is(t, fmt.Sprintf("no answer that counts, of the kind %d", m.Kind), n, api.Follower, -1)
	}
	// Two of five are enough with itself, one is not.
	for heard := range 5 {
		n := made(t, 0, 0, -1, first(0, 1, 2, 3, 4))
		leads(t, n)
		ticks(n, 10, 0)
		for i := range heard {
			n.Step(no(i+1, 0, 1, 0, 0))
		}
		ticks(n, 11, 0)
		if leads := n.Role() == api.Leader; leads != (heard >= 2) {
			t.Errorf("%d of four were heard: %v", heard, leads)
		}
	}
	// One that is no member does not count itself.
	n = three(t)
	changes(t, n, 2, 1, 2)
	ticks(n, 10, 0)
	n.Step(yes(1, 0, 1, 2, 0))
	ticks(n, 11, 0)
	is(t, "one of two", n, api.Follower, -1)
}

// Promise 10.2: Read's errors, rounds, and when a read is sure.
func TestRead(t *testing.T) {
	fails := func(what string, n *raft.Node, want api.Errno) {
		t.Helper()
		if r, i, l, e := n.Read(); r != 0 || i != 0 || len(l) != 0 || e != want {
			t.Errorf("%s: Read: %d, %d, %v, %v", what, r, i, l, e)
		}
	}
	n := made(t, 0, 2, -1, first(0, 1, 2, 3, 4), of(1)...)
	fails("a follower", n, api.ErrLeader)
	ticks(n, 10, 0)
	fails("a candidate", n, api.ErrLeader)
	leads(t, n)
	fails("nothing is committed", n, api.ErrBusy)
	for _, i := range []int{1, 2} {
		n.Step(yes(i, 0, 3, 1, 0))
		fails("nothing of its term is committed", n, api.ErrBusy)
	}
	for _, i := range []int{1, 2, 3} {
		n.Step(yes(i, 0, 3, 2, 0))
	}
	has(t, "committed", n, 2, append(of(1), noop(3))...)
	tells(t, "a read", reads(t, n, 1, 2), entries(0, 1, 3, 2, 3, 2, 1), entries(0, 2, 3, 2, 3, 2, 1), entries(0, 3, 3, 2, 3, 2, 1), entries(0, 4, 3, 1, 1, 2, 1, noop(3)))
	proposes(t, n, "x", 3)
	reads(t, n, 2, 2)
	sure := func(what string, one, two bool) {
		t.Helper()
		if n.Sure(3, 1) != one || n.Sure(3, 2) != two {
			t.Errorf("%s: Sure: %v, %v", what, n.Sure(3, 1), n.Sure(3, 2))
		}
		for _, term := range []int{0, 1, 2, 4, -1, math.MaxInt} {
			if n.Sure(term, 1) || n.Sure(term, 2) {
				t.Errorf("%s: Sure of the term %d", what, term)
			}
		}
	}
	sure("no answer", false, false)
	n.Step(yes(1, 0, 3, 2, 2))
	n.Step(yes(1, 0, 3, 2, 1))
	n.Step(yes(5, 0, 3, 2, 2))
	n.Step(yes(2, 0, 2, 2, 2))
	n.Step(voted(2, 0, 3, true))
	sure("one answer", false, false)
	n.Step(no(2, 0, 3, 2, 1))
	sure("two answers, one of the first round", true, false)
	n.Step(wants(3, 0, 3, 0))
	sure("one without a round", true, false)
	m := whole(3, 0, 3)
	m.Round = 2
	n.Step(m)
	sure("two answers", true, true)
	if n.Sure(3, 3) || n.Sure(3, math.MaxInt) {
		t.Errorf("Sure of a round that was not asked for")
	}
	n.Step(yes(4, 0, 3, 2, 99))
	n.Step(yes(3, 0, 3, 2, 99))
	reads(t, n, 3, 2)
	if n.Sure(3, 3) {
		t.Errorf("Sure by answers that came ahead of it")
	}
	n.Step(yes(1, 0, 4, 2, 3))
	is(t, "a greater term", n, api.Follower, -1)
	sure("it does not lead", false, false)
	leads(t, n)
	hard(t, "it leads again", n, 5, 0)
	sure("it leads again", false, false)
	for round := range 4 {
		if n.Sure(5, round) {
			t.Errorf("Sure of the round %d in a new term", round)
		}
	}
	fails("it leads again", n, api.ErrBusy)
}

// Promise 10.2: Sure of rounds that nobody asked for, at a leader that nobody answered, and alone.
func TestSureOfNothing(t *testing.T) {
	n := made(t, 0, 0, -1, first(0, 1, 2))
	leads(t, n)
	for _, round := range []int{0, 1, -1, math.MinInt, math.MaxInt} {
		if n.Sure(1, round) {
			t.Errorf("Sure of %d, where nobody answered", round)
		}
	}
	n = made(t, 0, 0, -1, first(0))
	leads(t, n)
	tells(t, "alone", reads(t, n, 1, 1))
	if !n.Sure(1, 1) || n.Sure(1, 2) || n.Sure(0, 1) || n.Sure(2, 1) {
		t.Errorf("Sure alone")
	}
	proposes(t, n, "x", 2)
	ticks(n, 3, 0)
	reads(t, n, 3, 2)
}

// What nodes do: the node itself does not count in a read, if it is no member any more.
func TestReadFromOutside(t *testing.T) {
	n := three(t)
	changes(t, n, 2, 1, 2)
	reads(t, n, 1, 1)
	n.Step(yes(1, 0, 1, 1, 1))
	if n.Sure(1, 1) {
		t.Errorf("Sure by one of two")
	}
	n.Step(yes(2, 0, 1, 1, 1))
	if !n.Sure(1, 1) {
		t.Errorf("not Sure by two of two")
	}
}

// Promise 10.2: Compact at each index, and its errors.
func TestCompact(t *testing.T) {
	base := api.Shot{Index: 5, Term: 1, Members: []int{0, 1, 2}, Data: "old"}
	log := []api.Entry{{Term: 1, Data: "six"}, says(2, 0, 1), {Term: 2, Data: "eight"}, says(3, 0, 1, 6), {Term: 3, Data: "ten"}}
	for index := 3; index <= 12; index++ {
		n := made(t, 1, 4, -1, base, log...)
		n.Step(entries(2, 1, 4, 10, 3, 8, 0))
		e := n.Compact(index, "new")
		what := fmt.Sprint("Compact to ", index)
		if index <= 5 || index > 8 {
			if e != api.ErrArg {
				t.Errorf("%s: %v", what, e)
			}
			if e := n.Compact(index, strings.Repeat("d", 131073)); e != api.ErrArg {
				t.Errorf("%s, of too much: %v", what, e)
			}
			has(t, what, n, 8, log...)
			if !sameShot(n.Base(), base) {
				t.Errorf("%s: Base: %v", what, n.Base())
			}
			continue
		}
		want := api.Shot{Index: index, Term: log[index-6].Term, Members: []int{0, 1, 2}, Data: "new"}
		if index >= 7 {
			want.Members = []int{0, 1}
		}
		if e != api.OK || !sameShot(n.Base(), want) {
			t.Errorf("%s: %v, %v", what, e, n.Base())
		}
		has(t, what, n, 8, log[index-5:]...)
		members(t, what, n, 0, 1, 6)
		takesNone(t, what, n)
		for _, i := range []int{5, 6, index} {
			if _, is := n.Entry(i); is {
				t.Errorf("%s: the entry %d is there", what, i)
			}
		}
		if e := n.Compact(index, "again"); e != api.ErrArg {
			t.Errorf("%s, again: %v", what, e)
		}
		tells(t, what, n.Step(entries(2, 1, 4, 10, 3, 10, 0)), yes(1, 2, 4, 10, 0))
	}
	n := made(t, 1, 4, -1, base, log...)
	n.Step(entries(2, 1, 4, 10, 3, 8, 0))
	for _, index := range []int{0, -1, math.MinInt, math.MaxInt} {
		if e := n.Compact(index, ""); e != api.ErrArg {
			t.Errorf("Compact to %d: %v", index, e)
		}
	}
	if e := n.Compact(7, strings.Repeat("d", 131073)); e != api.ErrLong || !sameShot(n.Base(), base) {
		t.Errorf("Compact of too much: %v", e)
	}
	if e := n.Compact(7, strings.Repeat("d", 131072)); e != api.OK || len(n.Base().Data) != 131072 {
		t.Errorf("Compact of much: %v", e)
	}
}

// A leader's log may be cut to its end; it leads on.
func TestCompactWhole(t *testing.T) {
	n := three(t)
	if e := n.Compact(1, "all"); e != api.OK {
		t.Fatalf("Compact: %v", e)
	}
	if last, term := n.Last(); last != 1 || term != 1 {
		t.Errorf("Last: %d, %d", last, term)
	}
	reads(t, n, 1, 1)
	tells(t, "behind the base", proposes(t, n, "x", 2), entries(0, 1, 1, 1, 1, 1, 1, data(1, "x")), entries(0, 2, 1, 1, 1, 1, 1, data(1, "x")))
	tells(t, "one has it", n.Step(yes(1, 0, 1, 2, 0)), entries(0, 1, 1, 2, 1, 2, 1), entries(0, 2, 1, 1, 1, 2, 1, data(1, "x")))
	if e := n.Compact(2, "more"); e != api.OK {
		t.Fatalf("Compact: %v", e)
	}
	changes(t, n, 3, 0, 1)
	has(t, "behind the base", n, 2, says(1, 0, 1))
}

// Promise 10.2: the text of a configuration that is laid.
func TestChangeLays(t *testing.T) {
	n := three(t)
	i, _, _ := n.Change([]int{0, 1, 2, 6})
	e, is := n.Entry(i)
	if l, err := conf.Decode(e.Data); !is || e.Term != 1 || e.Kind != api.EntryConf || err != api.OK || !slices.Equal(l, []int{0, 1, 2, 6}) {
		t.Errorf("Change lays %v, %v", e, is)
	}
}

// Indexes beyond api.MaxTerm can't be told, and nothing that may not be is.
func TestLastIndex(t *testing.T) {
	n := made(t, 0, 3, -1, api.Shot{Index: most, Term: 3, Members: []int{0, 1}})
	tells(t, "at the last index", ticks(n, 10, 0), vote(0, 1, 4, most, 3))
	want := entries(0, 1, 4, most, 3, most, 0, noop(4))
	tells(t, "it leads", n.Step(voted(1, 0, 4, true)), want)
	tells(t, "an answer", n.Step(yes(1, 0, 4, most, 0)), want)
	b := made(t, 1, 3, -1, api.Shot{Index: most, Term: 3, Members: []int{0, 1}})
	tells(t, "one beyond comes", b.Step(want))
	has(t, "one beyond comes", b, most, noop(4))
	tells(t, "it stands with it", ticks(b, 10, 0))
	is(t, "it stands with it", b, api.Candidate, -1)
	alone := made(t, 0, 3, -1, api.Shot{Index: most, Term: 3, Members: []int{0}})
	leads(t, alone)
	has(t, "alone", alone, most+1, noop(4))
}

// What nodes do: answers to one that does not lead any more are passed over.
func TestLateAnswers(t *testing.T) {
	n := three(t)
	proposes(t, n, "x", 2)
	ticks(n, 21, 0)
	is(t, "not heard", n, api.Follower, -1)
	for _, m := range []api.Msg{yes(1, 0, 1, 2, 0), no(1, 0, 1, 0, 0), wants(1, 0, 1, 0), whole(1, 0, 1), voted(1, 0, 1, true), voted(2, 0, 1, true)} {
		tells(t, "an answer of late", n.Step(m))
		has(t, "an answer of late", n, 1, noop(1), data(1, "x"))
		is(t, "an answer of late", n, api.Follower, -1)
	}
}

// What nodes do: rounds and beats begin with the lead.
func TestLeadsAnew(t *testing.T) {
	n := three(t)
	ticks(n, 5, 0)
	n.Step(no(1, 0, 2, 0, 0))
	is(t, "a greater term", n, api.Follower, -1)
	leads(t, n)
	tells(t, "ahead of a beat", ticks(n, 2, 0))
	tells(t, "a beat", n.Tick(0), entries(0, 1, 3, 1, 1, 1, 1, noop(3)), entries(0, 2, 3, 1, 1, 1, 1, noop(3)))
}
