package raft_test

import (
	"fmt"
	"math/rand"
	"slices"
	"strings"
	"testing"

	"stowage/api"
	"stowage/raft"
)

// What nodes do: entries behind each place of a log; its entries are of the terms 2, 3, 3 and 5 behind a base of the index 10 and the term 2.
func TestEntries(t *testing.T) {
	base := api.Shot{Index: 10, Term: 2, Members: []int{0, 1, 2}}
	log := of(2, 3, 3, 5)
	fresh := []api.Entry{{Term: 5, Data: "new"}, {Term: 6, Data: "newer"}}
	for _, c := range []struct {
		name           string
		index, logTerm int
		l              []api.Entry
		yes            bool
		at             int
		want           []api.Entry
	}{
		{"nothing behind the last one", 14, 5, nil, true, 14, log},
		{"behind the last one", 14, 5, fresh, true, 16, slices.Concat(log, fresh)},
		{"nothing behind the base", 10, 2, nil, true, 10, log},
		{"nothing within", 12, 3, nil, true, 12, log},
		{"what is there", 11, 2, log[1:3], true, 13, log},
		{"all that is there", 10, 2, log, true, 14, log},
		{"what is there, and more", 12, 3, slices.Concat(log[2:], fresh), true, 16, slices.Concat(log, fresh)},
		{"what clashes at once", 12, 3, fresh, true, 14, slices.Concat(log[:2], fresh)},
		{"what clashes in the end", 12, 3, []api.Entry{log[2], fresh[1]}, true, 14, slices.Concat(log[:3], fresh[1:])},
		{"what clashes, and makes the log shorter", 10, 2, fresh[1:], true, 11, fresh[1:]},
		{"one too far", 15, 5, fresh, false, 14, log},
		{"far too far", 99, 6, fresh[1:], false, 14, log},
		{"too far, with a log of lesser terms", 99, 4, nil, false, 13, log},
		{"too far, with a log of much lesser terms", 99, 1, nil, false, 10, log},
		{"another term, which is greater", 14, 6, nil, false, 13, log},
		{"another term, which is lesser", 14, 4, nil, false, 13, log},
		{"another term, less than all of one", 13, 2, nil, false, 11, log},
		{"another term at the first one", 11, 3, nil, false, 10, log},
		{"another term at the base", 10, 3, nil, false, 10, log},
		{"ahead of the base", 9, 2, log, false, 10, log},
		{"at nothing", 0, 0, fresh, false, 10, log},
	} {
		n := made(t, 1, 6, 2, base, log...)
		m := entries(2, 1, 6, c.index, c.logTerm, 0, 77, c.l...)
		want := no(1, 2, 6, c.at, 77)
		want.Yes = c.yes
		tells(t, c.name, n.Step(m), want)
		has(t, c.name, n, 10, c.want...)
		tells(t, c.name+", again", n.Step(m), want)
		has(t, c.name+", again", n, 10, c.want...)
		is(t, c.name, n, api.Follower, 2)
		hard(t, c.name, n, 6, 2)
	}
}

// What nodes do: the commit index is the lesser of the message's and of where the logs are the same, and never falls.
func TestCommits(t *testing.T) {
	n := made(t, 1, 6, -1, first(0, 1, 2), of(2, 3, 3, 5)...)
	for _, c := range []struct {
		m    api.Msg
		want int
	}{
		{entries(2, 1, 6, 2, 3, 0, 0), 0}, {entries(2, 1, 6, 2, 3, 1, 0), 1}, {entries(2, 1, 6, 2, 3, 9, 0), 2}, {entries(2, 1, 6, 2, 3, 0, 0), 2},
		{entries(2, 1, 6, 1, 2, most, 0, of(2, 3)[1:]...), 2}, {entries(2, 1, 6, 9, 6, 9, 0), 2}, {entries(2, 1, 6, 4, 6, 9, 0), 2}, {entries(2, 1, 5, 4, 5, 4, 0), 2},
		{entries(2, 1, 6, 3, 3, 3, 0, of(2, 3, 3, 5)[3:]...), 3}, {entries(2, 1, 6, 4, 5, 4, 0), 4}, {entries(2, 1, 6, 4, 5, 9, 0, api.Entry{Term: 6}), 5},
	} {
		n.Step(c.m)
		if n.Commit() != c.want {
			t.Errorf("behind %s: committed %d, not %d", brief([]api.Msg{c.m}), n.Commit(), c.want)
		}
	}
}

// What nodes do: what is committed is never given up; a message that wants that is passed over.
func TestNeverGivenUp(t *testing.T) {
	log := of(2, 3, 3, 5)
	for commit := 1; commit <= 4; commit++ {
		n := made(t, 1, 6, -1, first(0, 1, 2), log...)
		n.Step(entries(2, 1, 6, 4, 5, commit, 0))
		for at := 1; at <= 4; at++ {
			ahead := 0
			if at > 1 {
				ahead = log[at-2].Term
			}
			what := fmt.Sprintf("%d committed, another one at %d", commit, at)
			m := entries(2, 1, 6, at-1, ahead, 9, 5, api.Entry{Term: 6, Data: "other"})
			if at <= commit {
				tells(t, what, n.Step(m))
				has(t, what, n, commit, log...)
				continue
			}
			again := made(t, 1, 6, -1, first(0, 1, 2), log...)
			again.Step(entries(2, 1, 6, 4, 5, commit, 0))
			tells(t, what, again.Step(m), yes(1, 2, 6, at, 5))
			has(t, what, again, at, append(slices.Clone(log[:at-1]), m.Entries...)...)
		}
		// Where it could be the same is not ahead of what is committed.
		tells(t, "another term", n.Step(entries(2, 1, 6, 4, 6, 9, 5)), no(1, 2, 6, max(commit, 3), 5))
		tells(t, "much lesser terms", n.Step(entries(2, 1, 6, 9, 1, 9, 5)), no(1, 2, 6, commit, 5))
		tells(t, "ahead of what is committed", n.Step(entries(2, 1, 6, 1, 1, 9, 5)), no(1, 2, 6, commit, 5))
		has(t, "another term", n, commit, log...)
	}
	// It hears a leader all the same.
	n := made(t, 1, 5, -1, first(0, 1, 2), of(2)...)
	n.Step(entries(0, 1, 5, 1, 2, 1, 0))
	tells(t, "passed over", n.Step(entries(2, 1, 6, 0, 0, 1, 0, api.Entry{Term: 6})))
	is(t, "passed over", n, api.Follower, 2)
	hard(t, "passed over", n, 6, -1)
}

// What nodes do: entries of another term than the node's.
func TestEntriesOfTerms(t *testing.T) {
	n := made(t, 1, 6, 0, first(0, 1, 2), of(2)...)
	for _, m := range []api.Msg{entries(2, 1, 5, 1, 2, 1, 9, of(5)...), entries(2, 1, 0, 0, 0, 0, 9), {Kind: api.MsgShot, From: 2, To: 1, Term: 5, Index: 3, LogTerm: 2, Round: 9, Yes: true}} {
		answer := api.Msg{Kind: m.Kind + 1, From: 1, To: 2, Term: 6}
		tells(t, "a term that is over", n.Step(m), answer)
		is(t, "a term that is over", n, api.Follower, -1)
		hard(t, "a term that is over", n, 6, 0)
		has(t, "a term that is over", n, 0, of(2)...)
	}
	tells(t, "the node's term", n.Step(entries(2, 1, 6, 1, 2, 1, 9)), yes(1, 2, 6, 1, 9))
	hard(t, "the node's term", n, 6, 0)
	tells(t, "a greater term", n.Step(entries(0, 1, most, 1, 2, 1, 9)), yes(1, 0, most, 1, 9))
	hard(t, "a greater term", n, most, -1)
	is(t, "a greater term", n, api.Follower, 0)
	// A candidate follows who leads in its term.
	n = made(t, 1, 6, 0, first(0, 1, 2), of(2)...)
	ticks(n, 10, 0)
	is(t, "a candidate", n, api.Candidate, -1)
	tells(t, "a candidate", n.Step(entries(2, 1, 7, 1, 2, 1, 9)), yes(1, 2, 7, 1, 9))
	is(t, "a candidate that hears a leader", n, api.Follower, 2)
	hard(t, "a candidate that hears a leader", n, 7, 1)
	tells(t, "a vote that comes late", n.Step(voted(0, 1, 7, true)))
	is(t, "a vote that comes late", n, api.Follower, 2)
	// No other one leads in a leader's term.
	n = made(t, 1, 6, 0, first(0, 1, 2), of(2)...)
	leads(t, n)
	for _, m := range []api.Msg{entries(2, 1, 7, 0, 0, 2, 0, api.Entry{Term: 7, Data: "other"}), {Kind: api.MsgShot, From: 2, To: 1, Term: 7, Index: 9, LogTerm: 7, Yes: true}} {
		tells(t, "a second leader", n.Step(m))
		is(t, "a second leader", n, api.Leader, 1)
		has(t, "a second leader", n, 0, append(of(2), noop(7))...)
	}
	// A leader of a term that is over follows one of a greater term.
	tells(t, "a later leader", n.Step(entries(2, 1, 8, 1, 2, 2, 3, api.Entry{Term: 8, Data: "other"})), yes(1, 2, 8, 2, 3))
	is(t, "a later leader", n, api.Follower, 2)
	has(t, "a later leader", n, 2, append(of(2), api.Entry{Term: 8, Data: "other"})...)
}

// Words of chapter 10: who hears the leader of its term waits anew.
func TestHearsAndWaits(t *testing.T) {
	for _, m := range []api.Msg{entries(2, 0, 3, 0, 0, 0, 0), entries(2, 0, 4, 7, 2, 0, 0), {Kind: api.MsgShot, From: 2, To: 0, Term: 3, Index: 9, LogTerm: 2}} {
		n := made(t, 0, 3, -1, first(0, 1, 2))
		ticks(n, 9, 4)
		n.Step(m)
		if got := over(n, 0); got != 14 {
			t.Errorf("behind hearing a leader it waits %d ticks", got)
		}
	}
	n := made(t, 0, 3, -1, first(0, 1, 2))
	ticks(n, 9, 4)
	n.Step(entries(2, 0, 2, 0, 0, 0, 0))
	if got := over(n, 0); got != 1 {
		t.Errorf("behind hearing one of a lesser term it waits %d ticks", got)
	}
}

// Words of chapter 10: members are those of the last configuration in the log, which may go again.
func TestMembersOfLog(t *testing.T) {
	n := made(t, 0, 1, -1, first(0, 1))
	n.Step(entries(1, 0, 1, 0, 0, 0, 0, says(1, 0, 1, 2), of(1)[0]))
	members(t, "a configuration comes", n, 0, 1, 2)
	broken := says(1, 0, 1)
	broken.Data += "x"
	n.Step(entries(1, 0, 1, 2, 1, 1, 0, says(1, 0, 1, 2, 5), broken))
	members(t, "another one", n, 0, 1, 2, 5)
	n.Step(entries(2, 0, 2, 2, 1, 1, 0, noop(2)))
	members(t, "it goes", n, 0, 1, 2)
	if e := n.Compact(1, "s"); e != api.OK || !slices.Equal(n.Base().Members, []int{0, 1, 2}) {
		t.Errorf("Compact: %v, %v", e, n.Base())
	}
	members(t, "it is in the base", n, 0, 1, 2)
}

// plain is a log by the words of the chapter: a list of entries from the index 1 on.
type plain struct {
	l      []api.Entry
	commit int
}

// take takes entries by the words; whether it answers, and Yes.
func (p *plain) take(m api.Msg) (bool, bool) {
	if m.Index > len(p.l) || m.Index > 0 && p.l[m.Index-1].Term != m.LogTerm || m.Index == 0 && m.LogTerm != 0 {
		return true, false
	}
	l := slices.Clone(p.l)
	for i, e := range m.Entries {
		at := m.Index + i
		if at < len(l) && l[at].Term == e.Term {
			continue
		}
		if at < p.commit {
			return false, false
		}
		l = append(l[:at:at], e)
	}
	p.l = l
	p.commit = max(p.commit, min(m.Commit, m.Index+len(m.Entries)))
	return true, true
}

// What nodes do: drawn messages, held against the words.
func TestAnyEntries(t *testing.T) {
	counts := [3]int{}
	for seed := range 400 {
		r := rand.New(rand.NewSource(int64(seed)))
		n := made(t, 0, 0, -1, first(0, 1, 2))
		p := &plain{}
		term := 1
		for step := range 60 {
			if r.Intn(8) == 0 {
				term++
			}
			m := entries(1, 0, term, r.Intn(len(p.l)+2), r.Intn(term+1), r.Intn(4), step)
			if m.Index > 0 && m.Index <= len(p.l) && r.Intn(4) > 0 {
				m.LogTerm = p.l[m.Index-1].Term
			} else if m.Index == 0 {
				m.LogTerm = 0
			}
			ahead := m.LogTerm
			for i := range r.Intn(4) {
				at := m.Index + i
				if at < len(p.l) && p.l[at].Term >= ahead && r.Intn(5) > 0 {
					m.Entries = append(m.Entries, p.l[at])
				} else {
					m.Entries = append(m.Entries, api.Entry{Term: ahead + r.Intn(term-ahead+1), Data: fmt.Sprint(seed, step, i)})
				}
				ahead = m.Entries[i].Term
			}
			answers, yes := p.take(m)
			told := n.Step(m)
			what := fmt.Sprintf("seed %d, step %d", seed, step)
			has(t, what, n, p.commit, p.l...)
			if !answers {
				counts[0]++
				tells(t, what, told)
				continue
			}
			if len(told) != 1 || told[0].Yes != yes || told[0].Round != step || yes && told[0].Index != m.Index+len(m.Entries) {
				t.Fatalf("%s: told %s", what, brief(told))
			}
			if !yes {
				counts[1]++
				if at := told[0].Index; at > len(p.l) || at < p.commit || at >= m.Index && at > p.commit {
					t.Fatalf("%s: told %s", what, brief(told))
				}
			} else {
				counts[2]++
			}
		}
	}
	if slices.Min(counts[:]) < 200 {
		t.Errorf("too little happened: %v", counts)
	}
}

// shotOf is a snapshot of some pieces.
func shotOf(index, term, bytes int, members ...int) api.Shot {
	return api.Shot{Index: index, Term: term, Members: members, Data: strings.Repeat("snapshot ", bytes/9+1)[:bytes]}
}

// What nodes do: a leader's long log comes in messages of up to 16 entries, whatever the follower has.
func TestCatchesUp(t *testing.T) {
	long := slices.Concat(of(slices.Repeat([]int{1}, 30)...), of(slices.Repeat([]int{4}, 30)...))
	for _, l := range [][]api.Entry{nil, of(1), long, long[:45], append(slices.Clone(long[:20]), of(2, 2, 2, 3, 3)...), append(slices.Clone(long), of(slices.Repeat([]int{5}, 40)...)...), of(slices.Repeat([]int{2}, 70)...)} {
		a := made(t, 0, 5, -1, first(0, 1), long...)
		b := made(t, 1, 5, -1, first(0, 1), l...)
		way := leads(t, a)
		count := 0
		for ; len(way) > 0; count++ {
			m := way[0]
			if count > 200 {
				t.Fatalf("it does not end: %s", brief(way))
			}
			if len(m.Entries) > raft.Many {
				t.Errorf("%d entries", len(m.Entries))
			}
			to := a
			if m.To == 1 {
				to = b
			}
			way = append(way[1:], to.Step(m)...)
		}
		has(t, "the leader", a, 61, append(slices.Clone(long), noop(6))...)
		has(t, "the follower", b, 61, append(slices.Clone(long), noop(6))...)
	}
}
