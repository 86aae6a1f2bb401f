package gate

import (
	"strings"

	"stowage/api"
)

// heed does what a note says.
func (g *Gate) heed(n api.Note) {
	switch n.Kind {
	case api.NoteStore:
		_, e := g.keep(n.Data)
		g.tell(n.From, api.Note{Kind: api.NoteStored, ID: n.ID, Yes: e == api.OK})
	case api.NoteFetch:
		s, e := g.store.Get(n.ID)
		g.tell(n.From, api.Note{Kind: api.NoteFetched, ID: n.ID, Data: s, Yes: e == api.OK})
	case api.NoteStored:
		g.heedStored(n)
	case api.NoteFetched:
		g.heedFetched(n)
	}
}

// heedStored counts a node that keeps an extent, for all jobs that wait for that. One that does not may yet do so for another job, so that nothing becomes of its note.
func (g *Gate) heedStored(n api.Note) {
	if !n.Yes {
		return
	}
	for _, j := range g.jobs {
		j.count(n.ID, n.From)
	}
}

// heedFetched takes an extent, or that a node does not have it.
func (g *Gate) heedFetched(n api.Note) {
	if n.Yes {
		g.keep(n.Data) // without room for it those who wait for it wait on
		return
	}
	for _, j := range g.jobs {
		j.miss(n.ID, n.From)
	}
}

// keep puts an extent into the store. By whatever way it came there, those who lack it have it then.
func (g *Gate) keep(s string) (string, api.Errno) {
	id, e := g.store.Put(s)
	if e != api.OK {
		return "", e
	}
	for _, j := range g.jobs {
		j.find(id, s)
	}
	return id, api.OK
}

// others are all other members.
func (g *Gate) others() []int {
	var l []int
	for _, node := range g.node.Raft().Members() {
		if node != g.node.Me() {
			l = append(l, node)
		}
	}
	return l
}

// tellOthers tells all other members a note.
func (g *Gate) tellOthers(n api.Note) {
	for _, node := range g.others() {
		g.tell(node, n)
	}
}

// tell tells a node a note, in memory of its own; a node that is down tells nothing.
func (g *Gate) tell(node int, n api.Note) {
	if g.node.Raft() == nil {
		return
	}
	n.From, n.To = g.node.Me(), node
	n.ID, n.Data = strings.Clone(n.ID), strings.Clone(n.Data)
	g.notes = append(g.notes, n)
}
