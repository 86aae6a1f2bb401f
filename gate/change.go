package gate

import (
	"slices"

	"stowage/api"
	"stowage/cmd"
	"stowage/conf"
	"stowage/digest"
	"stowage/extent"
)

// storing is a command whose body is being kept by others.
type storing struct {
	cmd  api.Cmd
	kept map[string][]int // by the extents' ids: who has told that it keeps them
}

// store keeps the extents of a body, and has others keep them. All of them are kept here ahead of telling others, so that a body for which there is no room here takes none there.
func (j *job) store(w api.Want) api.Errno {
	if len(w.Body) > api.MaxObject {
		return api.ErrLong
	}
	g := j.gate
	c := w.Cmd
	c.Sum = digest.Hex(digest.Sum(w.Body))
	cut := extent.Cut(w.Body)
	kept := map[string][]int{}
	for _, s := range cut {
		id, e := g.keep(s)
		if e == api.ErrFull {
			return e
		}
		if e != api.OK {
			return api.ErrDown
		}
		c.Pieces = append(c.Pieces, api.Piece{ID: id, Size: len(s)})
		kept[id] = []int{g.node.Me()}
	}
	for i, s := range cut {
		g.tellOthers(api.Note{Kind: api.NoteStore, ID: c.Pieces[i].ID, Data: s})
	}
	j.storing = storing{c, kept}
	j.wait = j.stored
	return api.OK
}

// stored waits for a majority to keep each extent, and lays the command then.
func (j *job) stored(handout) (api.Reply, bool) {
	members := j.gate.node.Raft().Members()
	for _, who := range j.kept {
		if !conf.Enough(members, who) {
			return api.Reply{}, false
		}
	}
	c := j.cmd
	j.storing = storing{}
	if e := j.lay(c); e != api.OK {
		return j.gate.refusal(e), true
	}
	return api.Reply{}, false
}

// count counts a node that keeps an extent.
func (s storing) count(id string, node int) {
	if who, waits := s.kept[id]; waits && !slices.Contains(who, node) {
		s.kept[id] = append(who, node)
	}
}

// lay lays a command behind the log.
func (j *job) lay(c api.Cmd) api.Errno {
	text, e := cmd.Encode(c)
	if e != api.OK {
		return e
	}
	return j.laid(j.gate.node.Propose(text))
}

// change lays another configuration behind the log.
func (j *job) change(w api.Want) api.Errno {
	turn := conf.Drop
	if w.Add {
		turn = conf.Add
	}
	l, e := turn(j.gate.node.Raft().Members(), w.Node)
	if e != api.OK {
		return e
	}
	return j.laid(j.gate.node.Change(l))
}

// laid lets the job wait for an entry, unless it could not be laid.
func (j *job) laid(index int, told []api.Msg, e api.Errno) api.Errno {
	if e != api.OK {
		return e
	}
	j.gate.msgs = append(j.gate.msgs, told...)
	j.index = index
	j.wait = j.done
	return api.OK
}

// done waits for the entry to be handed out. One of another term that stands in its place is not the one that was laid; of one that a snapshot stands for nobody can tell what it was.
func (j *job) done(h handout) (api.Reply, bool) {
	d, is := h.deeds[j.index]
	if is && d.term == j.term {
		return api.Reply{Code: api.Errno(d.out.Code), ID: d.out.ID, Sum: d.out.Sum, Leader: nobody}, true
	}
	if is || j.index <= h.upto {
		return j.gate.refusal(api.ErrBusy), true
	}
	return api.Reply{}, false
}
