package shot

import (
	"stowage/api"
)

// most is how many bytes are gathered at most: a text of a snapshot that may be has fewer.
const most = 1 << 18

// Gather takes a snapshot's pieces in.
type Gather struct {
	begun       bool
	index, term int
	text        []byte
}

// NewGather has nothing.
func NewGather() *Gather {
	return &Gather{}
}

// Take takes a piece in: the snapshot, if that was the last one; else where the next one is to begin.
func (g *Gather) Take(c api.Chunk) (api.Shot, bool, int) {
	if g == nil {
		return api.Shot{}, false, 0
	}
	if c.At == 0 {
		*g = Gather{begun: true, index: c.Index, term: c.Term}
	}
	if !g.begun || c.Index != g.index || c.Term != g.term {
		return api.Shot{}, false, 0
	}
	if c.At != len(g.text) {
		return api.Shot{}, false, len(g.text)
	}
	if len(c.Data) > most-len(g.text) {
		*g = Gather{}
		return api.Shot{}, false, 0
	}
	g.text = append(g.text, c.Data...)
	if !c.Last {
		return api.Shot{}, false, len(g.text)
	}
	s, is := g.end()
	return s, is, 0
}

// end is the snapshot that was gathered, if it is one; nothing is gathered any more.
func (g *Gather) end() (api.Shot, bool) {
	was := *g
	*g = Gather{}
	s, e := Decode(string(was.text))
	if e != api.OK || s.Index != was.index || s.Term != was.term {
		return api.Shot{}, false
	}
	return s, true
}
