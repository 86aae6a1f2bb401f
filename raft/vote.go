package raft

import (
	"stowage/api"
)

// waitAnew lets the node wait from now on.
func (n *Node) waitAnew() {
	n.waited = 0
	n.wait = Wait + (n.draw%Spread+Spread)%Spread
}

// follow makes a follower of the node.
func (n *Node) follow(leader int) {
	if n.role != api.Follower {
		n.waitAnew()
	}
	n.role, n.leader = api.Follower, leader
}

// rise takes a greater term.
func (n *Node) rise(term int) {
	n.term, n.vote = term, nobody
	n.follow(nobody)
}

// hear follows the leader of the node's term.
func (n *Node) hear(leader int) {
	n.follow(leader)
	n.waitAnew()
	n.deaf = Wait
}

// mayStand tells whether the node may stand for the lead.
func (n *Node) mayStand() bool {
	return n.term < api.MaxTerm && (n.isMember(n.me) || n.isChanging())
}

// stand makes a candidate of the node.
func (n *Node) stand() []api.Msg {
	n.rise(n.term + 1)
	n.role = api.Candidate
	n.voteFor(n.me)
	n.votes = [api.MaxNodes]bool{}
	n.votes[n.me] = true
	if n.isChosen() {
		return n.lead()
	}
	return n.toOthers(func(node int) api.Msg {
		m := n.message(api.MsgVote, node)
		m.Index, m.LogTerm = n.Last()
		return m
	})
}

// voteFor gives the vote of the node's term.
func (n *Node) voteFor(node int) {
	n.vote = node
	n.waitAnew()
}

// isChosen tells whether a majority voted for the node.
func (n *Node) isChosen() bool {
	return n.enough(func(node int) bool { return n.votes[node] })
}

// takeVote answers one who stands.
func (n *Node) takeVote(m api.Msg) []api.Msg {
	answer := n.message(api.MsgVoted, m.From)
	free := n.vote == nobody || n.vote == m.From
	if m.Term == n.term && free && n.isUpToDate(m.Index, m.LogTerm) {
		n.voteFor(m.From)
		answer.Yes = true
	}
	return only(answer)
}

// isUpToDate tells whether a log with that last entry is up to date beside the node's.
func (n *Node) isUpToDate(index, term int) bool {
	ownIndex, ownTerm := n.Last()
	return term > ownTerm || term == ownTerm && index >= ownIndex
}

// takeVoted counts a vote.
func (n *Node) takeVoted(m api.Msg) []api.Msg {
	if n.isAnswer(m) {
		n.peers[m.From].silent = 0
	}
	if n.role != api.Candidate || m.Term != n.term || !m.Yes {
		return nil
	}
	n.votes[m.From] = true
	if !n.isChosen() {
		return nil
	}
	return n.lead()
}
