package gate

import (
	"stowage/api"
	"stowage/cmd"
	"stowage/meta"
)

// handout is what the node handed out at one time.
type handout struct {
	upto  int          // a snapshot stands in the place of entries up to this index; 0: none came
	deeds map[int]deed // by the entries' indexes
}

// deed is an entry that was handed out: its term, and what came of it.
type deed struct {
	term int
	out  api.Out
}

// machineOf is the machine that a snapshot says; none, if it says none.
func machineOf(s api.Shot) *meta.Machine {
	if s.Data == "" {
		return meta.New()
	}
	m, _ := meta.Load(s.Data) // beside an error it is none
	return m
}

// drive drives the machine by all that the node hands out.
func (g *Gate) drive() handout {
	h := handout{deeds: map[int]deed{}}
	if s, begins := g.node.Taken(); begins {
		g.machine = machineOf(s)
		g.handed, h.upto = s.Index, s.Index
	}
	for {
		entry, index, is := g.node.Next()
		if !is {
			return h
		}
		h.deeds[index] = deed{entry.Term, g.apply(index, entry)}
		g.handed = index
	}
}

// apply does what an entry says.
func (g *Gate) apply(index int, entry api.Entry) api.Out {
	if entry.Kind != api.EntryData {
		return api.Out{}
	}
	c, _ := cmd.Decode(entry.Data) // of a text that says no command it is one that may not be, which has its index and outcome, too
	return g.machine.Apply(index, c)
}

// cut lets a snapshot stand in the place of a long log.
func (g *Gate) cut() {
	if !g.isUp() || g.handed-g.node.Raft().Base().Index < Long {
		return
	}
	if text := g.machine.Save(); len(text) <= api.MaxShot {
		g.node.Compact(g.handed, text) // without room for it the node has its old one to begin with
	}
}
