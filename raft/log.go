package raft

import (
	"slices"

	"stowage/api"
	"stowage/conf"
)

// place is how many entries of the log there are up to an index.
func (n *Node) place(index int) int {
	return index - n.base.Index
}

// termAt is the term of the entry of an index, or of the base, if it is there.
func (n *Node) termAt(index int) (int, bool) {
	if index == n.base.Index {
		return n.base.Term, true
	}
	if index < n.base.Index || n.place(index) > len(n.log) {
		return 0, false
	}
	return n.log[n.place(index)-1].Term, true
}

// isSame tells whether the entry of an index, or the base, is there and of a term.
func (n *Node) isSame(index, term int) bool {
	own, is := n.termAt(index)
	return is && own == term
}

// isSettled tells whether the last committed entry is of the node's term.
func (n *Node) isSettled() bool {
	return n.isSame(n.commit, n.term)
}

// isChanging tells whether the log has a configuration that is not known to be committed.
func (n *Node) isChanging() bool {
	_, place := conf.Latest(nil, n.log[n.place(n.commit):])
	return place > 0
}

// isMember tells whether a node is a member.
func (n *Node) isMember(node int) bool {
	return conf.Has(n.Members(), node)
}

// enough tells whether the nodes of which a function says so are a majority.
func (n *Node) enough(is func(node int) bool) bool {
	var who []int
	for node := range api.MaxNodes {
		if is(node) {
			who = append(who, node)
		}
	}
	return conf.Enough(n.Members(), who)
}

// rebase makes a snapshot the base; of the log what stands behind it stays.
func (n *Node) rebase(s api.Shot) {
	n.log = slices.Clone(n.log[n.place(s.Index):])
	n.base = s
}

// toOthers is what each other member is told by a function.
func (n *Node) toOthers(tell func(node int) api.Msg) []api.Msg {
	var told []api.Msg
	for _, node := range n.Members() {
		if node != n.me {
			told = append(told, only(tell(node))...)
		}
	}
	return told
}

// message is one of a kind to a node, with nothing in it.
func (n *Node) message(kind, to int) api.Msg {
	return api.Msg{Kind: kind, From: n.me, To: to, Term: n.term}
}

// only is one message as what is told; nothing, if its indexes are beyond those that may be told.
func only(m api.Msg) []api.Msg {
	if !Check(m) {
		return nil
	}
	return []api.Msg{m}
}
