package node

import (
	"stowage/api"
	"stowage/raft"
	"stowage/shot"
	"stowage/wal"
)

// kept is up to where the disk has what the node of layer 10 has.
type kept struct {
	term, vote int
	base       int // the snapshot's index
	same       int // entries up to there are the same for sure: they were committed, and none of those is given up
}

// stand makes the node of layer 10 of what the disk has.
func (n *Node) stand() api.Errno {
	s, there, e := shot.Load(n.d)
	if e != api.OK {
		return e
	}
	if !there {
		s = api.Shot{Members: n.members}
	}
	log, e := wal.Open(n.d)
	if e != api.OK {
		return e
	}
	l, e := behind(log, s)
	if e != api.OK {
		return e
	}
	term, vote := log.Hard()
	term = max(term, s.Term)
	r, e := raft.New(n.me, term, vote, s, l, n.draw)
	if e != api.OK {
		return e
	}
	n.raft, n.log = r, log
	n.kept = kept{term: term, vote: vote, base: s.Index, same: s.Index}
	n.handed = s.Index
	return api.OK
}

// behind is a log's entries behind a snapshot. A log that does not go on from there is one that the snapshot was to replace when the power failed, or the room ended.
func behind(log *wal.Log, s api.Shot) ([]api.Entry, api.Errno) {
	if has(log, s.Index, s.Term) {
		return log.From(s.Index + 1), api.OK
	}
	if base, _ := log.Base(); base > s.Index {
		return nil, api.ErrCorrupt
	}
	return nil, log.Reset(s.Index, s.Term)
}

// has tells whether a log has the entry, or the base, of an index and a term.
func has(log *wal.Log, index, term int) bool {
	if base, own := log.Base(); base == index {
		return own == term
	}
	entry, there := log.Entry(index)
	return there && entry.Term == term
}

// keep lays what is new on the disk. The term comes ahead of entries of that term, and a snapshot ahead of giving up what it stands for, so that the power may fail between.
func (n *Node) keep() api.Errno {
	if e := n.keepHard(); e != api.OK {
		return e
	}
	if e := n.keepBase(); e != api.OK {
		return e
	}
	return n.keepEntries()
}

// keepHard keeps the term and the vote.
func (n *Node) keepHard() api.Errno {
	term, vote := n.raft.Hard()
	if term == n.kept.term && vote == n.kept.vote {
		return api.OK
	}
	if e := n.log.SetHard(term, vote); e != api.OK {
		return e
	}
	n.kept.term, n.kept.vote = term, vote
	return api.OK
}

// keepBase keeps the snapshot, and lets the log begin there.
func (n *Node) keepBase() api.Errno {
	s := n.raft.Base()
	// Each one stands for more than the one ahead, so that its index tells it apart.
	if s.Index == n.kept.base {
		return api.OK
	}
	if e := shot.Save(n.d, s); e != api.OK {
		return e
	}
	if e := n.begin(s.Index, s.Term); e != api.OK {
		return e
	}
	n.kept.base = s.Index
	return api.OK
}

// begin lets the log begin behind a snapshot, with the entries that it has there, if it has the snapshot's.
func (n *Node) begin(index, term int) api.Errno {
	if has(n.log, index, term) {
		return n.log.Compact(index)
	}
	return n.log.Reset(index, term)
}

// keepEntries keeps the entries from the first one on that is another than the log's.
func (n *Node) keepEntries() api.Errno {
	last, _ := n.raft.Last()
	end, _ := n.log.End()
	at := max(n.kept.same, n.kept.base) + 1
	for at <= last && at <= end && n.isKept(at) {
		at++
	}
	if at <= last || at <= end {
		if e := n.log.Append(at, n.entriesFrom(at)); e != api.OK {
			return e
		}
	}
	n.kept.same = n.raft.Commit()
	return api.OK
}

// isKept tells whether the log has the same entry of an index.
func (n *Node) isKept(index int) bool {
	own, _ := n.raft.Entry(index)
	entry, _ := n.log.Entry(index)
	return own == entry
}

// entriesFrom are the entries from an index on.
func (n *Node) entriesFrom(index int) []api.Entry {
	var l []api.Entry
	for {
		entry, there := n.raft.Entry(index)
		if !there {
			return l
		}
		l = append(l, entry)
		index++
	}
}
