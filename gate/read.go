package gate

import (
	"slices"
	"strings"

	"stowage/api"
)

// reading is what a job reads.
type reading struct {
	want        api.Want
	round, seen int // what node.Read told: the round, and up to where the reading is to see the log

	reply  api.Reply // what the machine said, but for the bytes of an object
	pieces []api.Piece
	bytes  []string         // of the pieces
	lacks  map[string][]int // by ids: the extents that are not there, and who has not told yet that it does not have them, either
}

// read asks whether the node still leads.
func (j *job) read(w api.Want) api.Errno {
	round, seen, told, e := j.gate.node.Read()
	if e != api.OK {
		return e
	}
	j.gate.msgs = append(j.gate.msgs, told...)
	j.reading = reading{want: w, round: round, seen: seen}
	j.wait = j.sure
	return api.OK
}

// sure waits until the node is sure to have led, and asks the machine then.
func (j *job) sure(h handout) (api.Reply, bool) {
	g := j.gate
	if !g.node.Sure(j.term, j.round) || g.handed < j.seen {
		return api.Reply{}, false
	}
	j.reply, j.pieces = Tell(g.machine, j.want)
	j.gather()
	j.wait = j.gathered
	return j.gathered(h)
}

// gather gets the extents of an object, and asks others for those that are not there.
func (j *job) gather() {
	g := j.gate
	j.bytes = make([]string, len(j.pieces))
	j.lacks = map[string][]int{}
	for i, p := range j.pieces {
		s, e := g.store.Get(p.ID)
		j.bytes[i] = s
		if _, asked := j.lacks[p.ID]; e == api.OK || asked {
			continue
		}
		j.lacks[p.ID] = g.others()
		g.tellOthers(api.Note{Kind: api.NoteFetch, ID: p.ID})
	}
}

// gathered waits for all extents to be there, or for one that nobody has.
func (j *job) gathered(handout) (api.Reply, bool) {
	for _, left := range j.lacks {
		if len(left) == 0 {
			return j.gate.refusal(api.ErrBusy), true
		}
	}
	if len(j.lacks) > 0 {
		return api.Reply{}, false
	}
	r := j.reply
	r.Body += strings.Join(j.bytes, "") // what is no object has no pieces, and its body already
	return r, true
}

// find takes an extent that came.
func (d *reading) find(id, s string) {
	if _, lacks := d.lacks[id]; !lacks {
		return
	}
	delete(d.lacks, id)
	for i, p := range d.pieces {
		if p.ID == id {
			d.bytes[i] = strings.Clone(s)
		}
	}
}

// miss notes that a node does not have an extent.
func (d *reading) miss(id string, node int) {
	if left, lacks := d.lacks[id]; lacks {
		d.lacks[id] = slices.DeleteFunc(left, func(other int) bool { return other == node })
	}
}
