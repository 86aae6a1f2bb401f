package raft_test

import (
	"fmt"
	"slices"
	"strings"
	"testing"

	"stowage/api"
	"stowage/conf"
	"stowage/raft"
)

// sameMsg tells whether messages are the same; no list and an empty one are.
func sameMsg(a, b api.Msg) bool {
	return a.Kind == b.Kind && a.From == b.From && a.To == b.To && a.Term == b.Term && a.Index == b.Index && a.LogTerm == b.LogTerm && a.Commit == b.Commit && a.Round == b.Round && a.At == b.At && a.Yes == b.Yes && a.Data == b.Data && slices.Equal(a.Entries, b.Entries)
}

// sameShot tells whether snapshots are the same.
func sameShot(a, b api.Shot) bool {
	return a.Index == b.Index && a.Term == b.Term && a.Data == b.Data && slices.Equal(a.Members, b.Members)
}

// tells asks that just these messages are told.
func tells(t *testing.T, what string, got []api.Msg, want ...api.Msg) {
	t.Helper()
	if !slices.EqualFunc(got, want, sameMsg) {
		t.Errorf("%s: told %s, not %s", what, brief(got), brief(want))
	}
}

// brief tells messages, long bytes by their number.
func brief(l []api.Msg) string {
	var all []string
	for _, m := range l {
		if len(m.Data) > 40 {
			m.Data = fmt.Sprint(len(m.Data), " bytes")
		}
		all = append(all, fmt.Sprintf("%+v", m))
	}
	return fmt.Sprint(len(all), " [", strings.Join(all, "; "), "]")
}

// entriesOf are a node's entries behind its base.
func entriesOf(n *raft.Node) []api.Entry {
	var l []api.Entry
	last, _ := n.Last()
	for at := n.Base().Index + 1; at <= last; at++ {
		e, _ := n.Entry(at)
		l = append(l, e)
	}
	return l
}

// of are entries of some terms, each with bytes of its own.
func of(terms ...int) []api.Entry {
	var l []api.Entry
	for i, term := range terms {
		l = append(l, api.Entry{Term: term, Data: fmt.Sprint(i+1, " of ", term)})
	}
	return l
}

// noop is the first entry of a leader.
func noop(term int) api.Entry {
	return api.Entry{Term: term, Kind: api.EntryNoop}
}

// says is an entry with a configuration.
func says(term int, members ...int) api.Entry {
	s, _ := conf.Encode(members)
	return api.Entry{Term: term, Kind: api.EntryConf, Data: s}
}

// made is a node as it stands up behind a snapshot, its wait 10 ticks.
func made(t *testing.T, me, term, vote int, s api.Shot, l ...api.Entry) *raft.Node {
	t.Helper()
	n, e := raft.New(me, term, vote, s, l, 0)
	if e != api.OK {
		t.Fatalf("New: %v", e)
	}
	return n
}

// first is a snapshot of nothing.
func first(members ...int) api.Shot {
	return api.Shot{Members: members}
}

// ticks lets some pass, with one draw: all that is told.
func ticks(n *raft.Node, count, draw int) []api.Msg {
	var l []api.Msg
	for range count {
		l = append(l, n.Tick(draw)...)
	}
	return l
}

// leads makes a node lead that is up and does not: it waits, if it does not stand yet, and all others of its members vote for it. What it tells when it leads.
func leads(t *testing.T, n *raft.Node) []api.Msg {
	t.Helper()
	var told []api.Msg
	for i := 0; i < 40 && n.Role() == api.Follower; i++ {
		told = n.Tick(0)
	}
	term, me := n.Hard()
	for _, node := range n.Members() {
		if node != me && n.Role() == api.Candidate {
			told = n.Step(voted(node, me, term, true))
		}
	}
	if n.Role() != api.Leader {
		t.Fatalf("it does not lead")
	}
	return told
}

// hard asks for a node's term and vote.
func hard(t *testing.T, what string, n *raft.Node, term, vote int) {
	t.Helper()
	if a, b := n.Hard(); a != term || b != vote {
		t.Errorf("%s: Hard: %d, %d, not %d, %d", what, a, b, term, vote)
	}
}

// is asks for a node's role and the leader it knows.
func is(t *testing.T, what string, n *raft.Node, role, leader int) {
	t.Helper()
	if n.Role() != role || n.Leader() != leader {
		t.Errorf("%s: Role %d, Leader %d, not %d, %d", what, n.Role(), n.Leader(), role, leader)
	}
}

// has asks for a node's entries behind its base, and for its commit index.
func has(t *testing.T, what string, n *raft.Node, commit int, l ...api.Entry) {
	t.Helper()
	if got := entriesOf(n); !slices.Equal(got, l) || n.Commit() != commit {
		t.Errorf("%s: committed %d of %v, not %d of %v", what, n.Commit(), got, commit, l)
	}
}

// members asks who a node's members are.
func members(t *testing.T, what string, n *raft.Node, want ...int) {
	t.Helper()
	if !slices.Equal(n.Members(), want) {
		t.Errorf("%s: Members: %v, not %v", what, n.Members(), want)
	}
}

// yes and no are answers to a leader's entries.
func yes(from, to, term, index, round int) api.Msg {
	return api.Msg{Kind: api.MsgAppended, From: from, To: to, Term: term, Index: index, Round: round, Yes: true}
}

func no(from, to, term, index, round int) api.Msg {
	return api.Msg{Kind: api.MsgAppended, From: from, To: to, Term: term, Index: index, Round: round}
}

// entries is a leader's message behind an entry.
func entries(from, to, term, index, logTerm, commit, round int, l ...api.Entry) api.Msg {
	return api.Msg{Kind: api.MsgAppend, From: from, To: to, Term: term, Index: index, LogTerm: logTerm, Commit: commit, Round: round, Entries: l}
}

// vote is a question by one who stands.
func vote(from, to, term, index, logTerm int) api.Msg {
	return api.Msg{Kind: api.MsgVote, From: from, To: to, Term: term, Index: index, LogTerm: logTerm}
}

// voted is the answer to it.
func voted(from, to, term int, yes bool) api.Msg {
	return api.Msg{Kind: api.MsgVoted, From: from, To: to, Term: term, Yes: yes}
}
