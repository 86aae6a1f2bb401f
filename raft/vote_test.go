package raft_test

import (
	"fmt"
	"math"
	"testing"

	"stowage/api"
	"stowage/raft"
)

// over is how many ticks pass, with a draw, until a node's term rises.
func over(n *raft.Node, draw int) int {
	was, _ := n.Hard()
	for i := range 100 {
		n.Tick(draw)
		if term, _ := n.Hard(); term > was {
			return i + 1
		}
	}
	return 0
}

// modulo is a draw modulo 11, from 0 on.
func modulo(draw int) int {
	return ((draw % 11) + 11) % 11
}

// Words of chapter 10: a wait is 10 ticks and the draw modulo 11 that came last when it began.
func TestWaits(t *testing.T) {
	draws := []int{math.MinInt, math.MinInt + 1, math.MaxInt, math.MaxInt - 1}
	for draw := -25; draw < 25; draw++ {
		draws = append(draws, draw)
	}
	for _, draw := range draws {
		n, _ := raft.New(1, 0, -1, first(0, 1, 2), nil, draw)
		// The next waits begin with the ticks at which it stands, so those ticks' draws count.
		other := 3 - draw%7
		if got, want := over(n, other), 10+modulo(draw); got != want {
			t.Errorf("with the draw %d it waits %d ticks, not %d", draw, got, want)
		}
		is(t, "a wait is over", n, api.Candidate, -1)
		for range 2 {
			if got, want := over(n, other), 10+modulo(other); got != want {
				t.Errorf("a candidate with the draw %d waits %d ticks, not %d", other, got, want)
			}
		}
	}
}

// What nodes do: who stands asks all other members by its last entry.
func TestStands(t *testing.T) {
	n := made(t, 2, 6, 4, first(0, 2, 5, 6), of(2, 3, 3)...)
	tells(t, "nine ticks", ticks(n, 9, 0))
	tells(t, "ten ticks", n.Tick(0), vote(2, 0, 7, 3, 3), vote(2, 5, 7, 3, 3), vote(2, 6, 7, 3, 3))
	is(t, "ten ticks", n, api.Candidate, -1)
	hard(t, "ten ticks", n, 7, 2)
	has(t, "ten ticks", n, 0, of(2, 3, 3)...)
	tells(t, "nine ticks more", ticks(n, 9, 0))
	tells(t, "ten ticks more", n.Tick(0), vote(2, 0, 8, 3, 3), vote(2, 5, 8, 3, 3), vote(2, 6, 8, 3, 3))
	hard(t, "ten ticks more", n, 8, 2)
	// The base tells where the log ends, if it has no entries.
	n = made(t, 0, 5, -1, api.Shot{Index: 30, Term: 4, Members: []int{0, 1}})
	tells(t, "a base alone", ticks(n, 10, 0), vote(0, 1, 6, 30, 4))
}

// What nodes do: one that is no member waits anew, but if its log has a configuration that may not be committed.
func TestMayStand(t *testing.T) {
	broken := says(1, 1, 2)
	broken.Data += "x"
	data := says(1, 0, 1, 2)
	data.Kind = api.EntryData
	for i, c := range []struct {
		n     *raft.Node
		after int // which index is told as committed ahead of the wait
		asked []int
	}{
		{made(t, 0, 1, -1, first(1, 2)), 0, nil},
		{made(t, 0, 1, -1, first(1, 2), of(1, 1)...), 0, nil},
		{made(t, 0, 1, -1, first(1, 2), broken, data), 0, nil},
		{made(t, 0, 1, -1, first(1, 2), says(1, 1)), 0, []int{1}},
		{made(t, 0, 1, -1, first(1, 2), says(1, 1), data), 1, nil},
		{made(t, 0, 1, -1, first(1, 2), says(1, 1), says(1, 1, 3)), 1, []int{1, 3}},
		{made(t, 0, 1, -1, first(1, 2), says(1, 1), says(1, 1, 3)), 2, nil},
		{made(t, 0, 1, -1, first(0, 1, 2), says(1, 1, 2)), 0, []int{1, 2}},
		{made(t, 0, 1, -1, first(0, 1, 2), says(1, 1, 2)), 1, nil},
		{made(t, 0, 1, -1, first(1, 2), says(1, 0, 1, 2)), 0, []int{1, 2}},
		{made(t, 0, 1, -1, first(1, 2), says(1, 0, 1, 2)), 1, []int{1, 2}},
	} {
		last, term := c.n.Last()
		if c.after > 0 {
			c.n.Step(entries(4, 0, 1, last, term, c.after, 0))
		}
		told := ticks(c.n, 10, 0)
		var want []api.Msg
		for _, to := range c.asked {
			want = append(want, vote(0, to, 2, last, term))
		}
		tells(t, fmt.Sprint("who may stand, ", i), told, want...)
		if c.asked == nil {
			hard(t, fmt.Sprint("who may not stand, ", i), c.n, 1, -1)
			// It waits anew: a tick later it may not stand either, though it is a member then.
			if i == 0 {
				tells(t, "ticks of the next wait", ticks(c.n, 3, 0))
				c.n.Step(entries(4, 0, 1, 0, 0, 1, 0, says(1, 0, 1, 2)))
				tells(t, "behind hearing a leader", ticks(c.n, 9, 0))
				tells(t, "behind hearing a leader", c.n.Tick(0), vote(0, 1, 2, 1, 1), vote(0, 2, 2, 1, 1))
			}
		}
	}
}

// Terms at api.MaxTerm: there is no greater one to stand in.
func TestLastTerm(t *testing.T) {
	n := made(t, 0, most-1, -1, first(0, 1))
	tells(t, "the last term", ticks(n, 10, 0), vote(0, 1, most, 0, 0))
	tells(t, "behind the last term", ticks(n, 100, 0))
	is(t, "behind the last term", n, api.Candidate, -1)
	hard(t, "behind the last term", n, most, 0)
	n.Step(voted(1, 0, most, true))
	is(t, "a vote in the last term", n, api.Leader, 0)
	n = made(t, 0, most, -1, first(0))
	tells(t, "alone in the last term", ticks(n, 100, 0))
	is(t, "alone in the last term", n, api.Follower, -1)
	hard(t, "alone in the last term", n, most, -1)
	n = made(t, 0, most-1, -1, first(0))
	ticks(n, 10, 0)
	is(t, "alone ahead of the last term", n, api.Leader, 0)
}

// What nodes do: a majority of the members chooses; votes count once, and only Yes, of the term, of members.
func TestChosen(t *testing.T) {
	n := made(t, 1, 3, -1, first(0, 1, 2, 3, 4), of(3, 3)...)
	ticks(n, 10, 0)
	for _, m := range []api.Msg{
		voted(0, 1, 4, true), voted(0, 1, 4, true), voted(2, 1, 4, false), voted(3, 1, 3, true), voted(5, 1, 4, true), voted(6, 1, 4, true),
		yes(3, 1, 4, 2, 0), no(3, 1, 4, 2, 0), {Kind: api.MsgShotted, From: 3, To: 1, Term: 4, Yes: true},
	} {
		tells(t, "not enough votes", n.Step(m))
		is(t, "not enough votes", n, api.Candidate, -1)
	}
	want := func(to int) api.Msg { return entries(1, to, 4, 2, 3, 0, 0, noop(4)) }
	tells(t, "a majority", n.Step(voted(4, 1, 4, true)), want(0), want(2), want(3), want(4))
	is(t, "a majority", n, api.Leader, 1)
	hard(t, "a majority", n, 4, 1)
	has(t, "a majority", n, 0, append(of(3, 3), noop(4))...)
	tells(t, "one more", n.Step(voted(3, 1, 4, true)))
	has(t, "one more", n, 0, append(of(3, 3), noop(4))...)
	// Votes of the term ahead are gone with it.
	n = made(t, 1, 3, -1, first(0, 1, 2, 3, 4))
	ticks(n, 10, 0)
	n.Step(voted(0, 1, 4, true))
	ticks(n, 10, 0)
	n.Step(voted(2, 1, 5, true))
	is(t, "a vote in each of two terms", n, api.Candidate, -1)
}

// What nodes do: one that stands, but is no member, has no vote that counts.
func TestChosenFromOutside(t *testing.T) {
	n := made(t, 0, 1, -1, first(0, 1, 2), says(1, 1, 2))
	ticks(n, 10, 0)
	n.Step(voted(1, 0, 2, true))
	is(t, "one of two", n, api.Candidate, -1)
	tells(t, "two of two", n.Step(voted(2, 0, 2, true)), entries(0, 1, 2, 1, 1, 0, 0, noop(2)), entries(0, 2, 2, 1, 1, 0, 0, noop(2)))
	is(t, "two of two", n, api.Leader, 0)
	hard(t, "two of two", n, 2, 0)
}

// What nodes do: a vote is given once a term, to one whose log is up to date.
func TestVotes(t *testing.T) {
	for _, c := range []struct {
		name  string
		term  int // the node's own; its log has three entries, of the terms 2, 3 and 5
		vote  int
		m     api.Msg
		yes   bool
		after int // the term
		voted int
	}{
		{"the same log", 5, -1, vote(1, 0, 6, 3, 5), true, 6, 1},
		{"a longer one", 5, -1, vote(1, 0, 6, 4, 5), true, 6, 1},
		{"a shorter one of a greater term", 5, -1, vote(1, 0, 7, 1, 6), true, 7, 1},
		{"a shorter one", 5, -1, vote(1, 0, 6, 2, 5), false, 6, -1},
		{"a longer one of a lesser term", 5, -1, vote(1, 0, 6, 9, 4), false, 6, -1},
		{"none", 5, -1, vote(1, 0, 6, 0, 0), false, 6, -1},
		{"of the node's term", 6, -1, vote(1, 0, 6, 3, 5), true, 6, 1},
		{"the one that has it", 6, 1, vote(1, 0, 6, 3, 5), true, 6, 1},
		{"the one that has it, now behind", 6, 1, vote(1, 0, 6, 2, 5), false, 6, 1},
		{"a second one", 6, 2, vote(1, 0, 6, 3, 5), false, 6, 2},
		{"a second one, with more", 6, 2, vote(1, 0, 6, 9, 6), false, 6, 2},
		{"the node itself has it", 6, 0, vote(1, 0, 6, 9, 6), false, 6, 0},
		{"a second one of a greater term", 6, 2, vote(1, 0, 7, 3, 5), true, 7, 1},
		{"one of a lesser term", 6, -1, vote(1, 0, 5, 9, 5), false, 6, -1},
		{"one of a lesser term that has it", 6, 1, vote(1, 0, 5, 9, 5), false, 6, 1},
		{"one that is no member", 5, -1, vote(6, 0, 6, 3, 5), true, 6, 6},
		{"of the last term", 5, -1, vote(1, 0, most, 3, 5), true, most, 1},
	} {
		n := made(t, 0, c.term, c.vote, first(0, 1, 2), of(2, 3, 5)...)
		tells(t, c.name, n.Step(c.m), voted(0, c.m.From, c.after, c.yes))
		hard(t, c.name, n, c.after, c.voted)
		tells(t, c.name+", again", n.Step(c.m), voted(0, c.m.From, c.after, c.yes))
		hard(t, c.name+", again", n, c.after, c.voted)
		is(t, c.name, n, api.Follower, -1)
		has(t, c.name, n, 0, of(2, 3, 5)...)
	}
	n := made(t, 0, 5, -1, api.Shot{Index: 3, Term: 5, Members: []int{0, 1}})
	tells(t, "one behind the base", n.Step(vote(1, 0, 6, 2, 5)), voted(0, 1, 6, false))
	tells(t, "one at the base", n.Step(vote(1, 0, 6, 3, 5)), voted(0, 1, 6, true))
}

// Words of chapter 10: who votes waits anew, with the draw that came last; who does not waits on.
func TestVotesAndWaits(t *testing.T) {
	n := made(t, 0, 0, -1, first(0, 1, 2), of(0)...)
	ticks(n, 9, 4)
	n.Step(vote(1, 0, 1, 1, 0))
	if got := over(n, 0); got != 14 {
		t.Errorf("behind a vote it waits %d ticks", got)
	}
	n = made(t, 0, 0, -1, first(0, 1, 2), of(0)...)
	ticks(n, 9, 4)
	n.Step(vote(1, 0, 1, 0, 0))
	if got := over(n, 0); got != 1 {
		t.Errorf("behind no vote it waits %d ticks", got)
	}
	n = made(t, 0, 0, -1, first(0, 1, 2))
	ticks(n, 9, 4)
	n.Step(yes(1, 0, 5, 0, 0))
	hard(t, "a greater term", n, 5, -1)
	if got := over(n, 0); got != 1 {
		t.Errorf("a follower that hears of a greater term waits %d ticks", got)
	}
	// A candidate that is one no more waits anew.
	n = made(t, 0, 0, -1, first(0, 1, 2), of(0)...)
	ticks(n, 15, 3)
	is(t, "a candidate", n, api.Candidate, -1)
	tells(t, "a greater term", n.Step(vote(1, 0, 9, 0, 0)), voted(0, 1, 9, false))
	is(t, "a greater term", n, api.Follower, -1)
	hard(t, "a greater term", n, 9, -1)
	if got := over(n, 0); got != 13 {
		t.Errorf("behind standing it waits %d ticks", got)
	}
}

// What nodes do: each kind of a greater term makes a follower of a candidate and, but for MsgVote, of a leader.
func TestGreaterTerms(t *testing.T) {
	for kind := 1; kind <= 6; kind++ {
		m := api.Msg{Kind: kind, From: 2, To: 0, Term: 8, Index: 9, LogTerm: 1}
		what := fmt.Sprint("the kind ", kind)
		n := made(t, 0, 0, -1, first(0, 1, 2))
		ticks(n, 10, 0)
		is(t, what, n, api.Candidate, -1)
		n.Step(m)
		leader, whom := -1, -1
		switch kind {
		case api.MsgVote:
			whom = 2
		case api.MsgAppend, api.MsgShot:
			leader = 2
		}
		is(t, what, n, api.Follower, leader)
		hard(t, what, n, 8, whom)
		n = made(t, 0, 0, -1, first(0, 1, 2))
		leads(t, n)
		told := n.Step(m)
		if kind == api.MsgVote {
			tells(t, "a vote at a leader", told)
			is(t, "a vote at a leader", n, api.Leader, 0)
			hard(t, "a vote at a leader", n, 1, 0)
			continue
		}
		is(t, what, n, api.Follower, leader)
		hard(t, what, n, 8, -1)
		if e := n.Compact(1, ""); e != api.ErrArg {
			t.Errorf("%s: something is committed: %v", what, e)
		}
	}
}

// What nodes do: MsgVote at a leader is passed over, of any term.
func TestVoteAtLeader(t *testing.T) {
	n := made(t, 0, 4, -1, first(0, 1, 2))
	leads(t, n)
	for _, term := range []int{0, 4, 5, 6, most} {
		tells(t, "a vote at a leader", n.Step(vote(1, 0, term, 9, min(term, 5))))
		is(t, "a vote at a leader", n, api.Leader, 0)
		hard(t, "a vote at a leader", n, 5, 0)
	}
}

// Words of chapter 10: who heard a leader is deaf for ten ticks, and no longer.
func TestDeaf(t *testing.T) {
	for _, heard := range []api.Msg{entries(2, 0, 3, 0, 0, 0, 0), entries(2, 0, 3, 7, 2, 0, 0), {Kind: api.MsgShot, From: 2, To: 0, Term: 3, Index: 9, LogTerm: 2}} {
		for passed := range 14 {
			n, _ := raft.New(0, 3, -1, first(0, 1, 2), nil, 10)
			ticks(n, 5, 10)
			n.Step(heard)
			ticks(n, passed, 10)
			what := fmt.Sprintf("%d ticks behind hearing a leader", passed)
			if passed < 10 {
				for _, term := range []int{2, 3, 4, most} {
					tells(t, what, n.Step(vote(1, 0, term, 9, 1)))
				}
				hard(t, what, n, 3, -1)
				is(t, what, n, api.Follower, 2)
				continue
			}
			tells(t, what, n.Step(vote(1, 0, 4, 9, 3)), voted(0, 1, 4, true))
			hard(t, what, n, 4, 1)
			is(t, what, n, api.Follower, -1)
		}
	}
	// Hearing one again is deafness anew; one of a lesser term is no leader.
	n, _ := raft.New(0, 3, -1, first(0, 1, 2), nil, 10)
	n.Step(entries(2, 0, 3, 0, 0, 0, 0))
	ticks(n, 9, 10)
	n.Step(entries(2, 0, 3, 0, 0, 0, 0))
	ticks(n, 9, 10)
	tells(t, "heard again", n.Step(vote(1, 0, 4, 9, 3)))
	n.Step(entries(2, 0, 2, 0, 0, 0, 0))
	ticks(n, 1, 10)
	tells(t, "no leader", n.Step(vote(1, 0, 4, 9, 3)), voted(0, 1, 4, true))
}
