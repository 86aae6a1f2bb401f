package raft

import (
	"stowage/api"
)

// takeLeader answers one that leads: take says what becomes of its message in the node's term, and fills the answer.
func (n *Node) takeLeader(m api.Msg, kind int, take func(m, answer api.Msg) []api.Msg) []api.Msg {
	answer := n.message(kind, m.From)
	if m.Term < n.term {
		// One that leads in a term that is over learns by it that it is.
		return only(answer)
	}
	if n.role == api.Leader {
		// No other one leads in its term.
		return nil
	}
	n.hear(m.From)
	answer.Round = m.Round
	return take(m, answer)
}

// takeAppend takes a leader's entries.
func (n *Node) takeAppend(m, answer api.Msg) []api.Msg {
	if !n.isSame(m.Index, m.LogTerm) {
		answer.Index = n.common(m)
		return only(answer)
	}
	if !n.merge(m.Index, m.Entries) {
		return nil
	}
	answer.Yes = true
	answer.Index = m.Index + len(m.Entries)
	n.commit = max(n.commit, min(answer.Index, m.Commit))
	return only(answer)
}

// common is up to where the log may be the same as one that has the entry ahead of a message's: in that one no term up to there is above LogTerm, and what is committed is the same in all.
func (n *Node) common(m api.Msg) int {
	last, _ := n.Last()
	for i := min(m.Index-1, last); i > n.commit; i-- {
		if term, _ := n.termAt(i); term <= m.LogTerm {
			return i
		}
	}
	return n.commit
}

// merge lays entries behind the one of an index, as far as they are not there; not at all, if something committed would go.
func (n *Node) merge(ahead int, l []api.Entry) bool {
	for i, e := range l {
		index := ahead + 1 + i
		if n.isSame(index, e.Term) {
			continue
		}
		if index <= n.commit {
			return false
		}
		n.log = append(n.log[:n.place(index)-1], copiedEntries(l[i:])...)
		return true
	}
	return true
}

// takeShot takes a piece of a leader's snapshot.
func (n *Node) takeShot(m, answer api.Msg) []api.Msg {
	if m.Index <= n.commit {
		answer.Yes = true
		return only(answer)
	}
	s, whole, at := n.gather.Take(api.Chunk{Index: m.Index, Term: m.LogTerm, At: m.At, Last: m.Yes, Data: m.Data})
	if whole {
		n.take(s)
	}
	answer.Yes, answer.At = whole, at
	return only(answer)
}

// take makes a leader's snapshot the base.
func (n *Node) take(s api.Shot) {
	if n.isSame(s.Index, s.Term) {
		n.rebase(s)
	} else {
		n.base, n.log = s, nil
	}
	n.commit = s.Index
	n.taken, n.isTaken = copiedShot(s), true
}
