package raft

import (
	"strings"

	"stowage/api"
	"stowage/conf"
	"stowage/shot"
)

// peer is what a leader knows of another node.
type peer struct {
	next   int // the first entry that it is thought to lack
	match  int // up to where its log is the leader's for sure
	at     int // the place of the snapshot's text that it wants
	round  int // the greatest one that it answered with; below 0: none
	silent int // how many ticks have passed since its last answer
}

// lead makes a leader of the node.
func (n *Node) lead() []api.Msg {
	n.role, n.leader = api.Leader, n.me
	n.round, n.beat = 0, 0
	for node := range api.MaxNodes {
		n.meet(node)
	}
	_, told := n.lay(api.EntryNoop, "")
	return told
}

// meet begins to know of a node: it is thought to have what the leader has.
func (n *Node) meet(node int) {
	last, _ := n.Last()
	n.peers[node] = peer{next: last + 1, round: -1}
}

// leadOn lets a tick pass at a leader.
func (n *Node) leadOn() []api.Msg {
	for i := range n.peers {
		n.peers[i].silent++
	}
	if !n.enough(func(node int) bool { return node == n.me || n.peers[node].silent <= Quiet }) {
		n.follow(nobody)
		return nil
	}
	n.beat++
	if n.beat < Beat {
		return nil
	}
	n.beat = 0
	n.round++
	return n.toOthers(n.lacked)
}

// lay lays an entry of the node's term behind the log: its index, and what is told.
func (n *Node) lay(kind int, data string) (int, []api.Msg) {
	n.log = append(n.log, api.Entry{Term: n.term, Kind: kind, Data: data})
	index, _ := n.Last()
	n.advance()
	return index, n.tellAll()
}

// advance commits what a majority has, and tells whether that is more than was.
func (n *Node) advance() bool {
	var values [api.MaxNodes]int
	for node := range api.MaxNodes {
		values[node] = n.peers[node].match
	}
	values[n.me], _ = n.Last()
	reached := conf.Reached(n.Members(), values[:])
	if reached <= n.commit || !n.isSame(reached, n.term) {
		return false
	}
	n.commit = reached
	return true
}

// tellAll tells all others what they lack, and stops to lead, if a configuration without the node is committed: they are to know that it is.
func (n *Node) tellAll() []api.Msg {
	told := n.toOthers(n.lacked)
	if !n.isMember(n.me) && !n.isChanging() {
		n.follow(nobody)
	}
	return told
}

// lacked is what tells a node what it lacks.
func (n *Node) lacked(node int) api.Msg {
	next := n.peers[node].next
	if next <= n.base.Index {
		return n.piece(node)
	}
	m := n.message(api.MsgAppend, node)
	m.Index = next - 1
	m.LogTerm, _ = n.termAt(m.Index)
	m.Commit, m.Round = n.commit, n.round
	m.Entries = n.some(next)
	return m
}

// some are as many entries from an index on as are told at one time.
func (n *Node) some(index int) []api.Entry {
	l := n.log[n.place(index)-1:]
	count, size := 0, 0
	for _, e := range l {
		size += len(e.Data)
		if count == Many || count > 0 && size > Bulk {
			break
		}
		count++
	}
	return copiedEntries(l[:count])
}

// piece is the piece of the snapshot that a node wants.
func (n *Node) piece(node int) api.Msg {
	text, _ := shot.Encode(n.base)
	at := n.peers[node].at
	if at >= len(text) {
		at = 0
	}
	end := min(at+Piece, len(text))
	m := n.message(api.MsgShot, node)
	m.Index, m.LogTerm, m.Round = n.base.Index, n.base.Term, n.round
	m.At, m.Data, m.Yes = at, strings.Clone(text[at:end]), end == len(text)
	return m
}

// isAnswer tells whether a message is an answer to the node as it leads.
func (n *Node) isAnswer(m api.Msg) bool {
	return n.role == api.Leader && m.Term == n.term
}

// answered is the greatest round that a node answered with; the leader itself has answered all.
func (n *Node) answered(node int) int {
	if node == n.me {
		return n.round
	}
	return n.peers[node].round
}

// note notes that a node answered with a round.
func (n *Node) note(m api.Msg) {
	p := &n.peers[m.From]
	p.silent = 0
	p.round = max(p.round, min(m.Round, n.round))
}

// takeAppended takes an answer to entries.
func (n *Node) takeAppended(m api.Msg) []api.Msg {
	if !n.isAnswer(m) {
		return nil
	}
	n.note(m)
	p := &n.peers[m.From]
	last, _ := n.Last()
	if !m.Yes {
		p.next = min(m.Index, last) + 1
		return n.goOn(m.From)
	}
	if m.Index <= last {
		p.match = max(p.match, m.Index)
		p.next = p.match + 1
	}
	if n.advance() {
		return n.tellAll()
	}
	return n.goOn(m.From)
}

// takeShotted takes an answer to a piece of the snapshot. That one has a snapshot does not say that it is this one, so its log is asked for by entries.
func (n *Node) takeShotted(m api.Msg) []api.Msg {
	if !n.isAnswer(m) {
		return nil
	}
	n.note(m)
	p := &n.peers[m.From]
	p.at = m.At
	if m.Yes {
		p.next = max(p.next, n.base.Index+1)
	}
	return n.goOn(m.From)
}

// goOn tells a member that answered what it lacks, if there is more.
func (n *Node) goOn(node int) []api.Msg {
	p := n.peers[node]
	last, _ := n.Last()
	if !n.isMember(node) || p.next > last && p.match == last {
		return nil
	}
	return only(n.lacked(node))
}
