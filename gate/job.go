package gate

import (
	"maps"
	"slices"

	"stowage/api"
)

// job is a request that is not answered yet.
type job struct {
	gate  *Gate
	term  int // in which it was asked
	ticks int // that are left

	// What it waits for: the answer, if that has come.
	wait func(h handout) (api.Reply, bool)

	storing
	index int // of the entry that it waits for; 0: it waits for none
	reading
}

// begin does what a request wants at once, and says what the job waits for then; an error is the answer.
func (j *job) begin(w api.Want) api.Errno {
	if !j.gate.isUp() {
		return api.ErrDown
	}
	r := j.gate.node.Raft()
	if r.Role() != api.Leader {
		return api.ErrLeader
	}
	j.term, _ = r.Hard()
	switch {
	case w.Kind == api.WantNode:
		return j.change(w)
	case w.Kind != api.WantCmd:
		return j.read(w)
	case w.Cmd.Kind == api.CmdPut || w.Cmd.Kind == api.CmdPart:
		return j.store(w)
	}
	return j.lay(w.Cmd)
}

// settle hands on what the node hands out, and what others told, until no job comes further by it.
func (g *Gate) settle() {
	for further := true; further; {
		further = g.pass(g.drive())
	}
}

// pass looks at each job, in the order of the tags, and tells whether one came further: it may have laid an entry, and so have changed what the node hands out, or have lost the node.
func (g *Gate) pass(h handout) bool {
	further := false
	for _, tag := range slices.Sorted(maps.Keys(g.jobs)) {
		j := g.jobs[tag]
		was := j.index
		r, is := j.look(h)
		if is {
			g.answer(tag, r)
		}
		further = further || is || j.index != was
	}
	return further
}

// look is the answer to a job, if there is one now.
func (j *job) look(h handout) (api.Reply, bool) {
	g := j.gate
	if !g.isUp() || j.index == 0 && !g.leadsIn(j.term) {
		return g.refusal(api.ErrBusy), true
	}
	if r, is := j.wait(h); is {
		return r, true
	}
	if j.ticks <= 0 {
		return g.refusal(api.ErrBusy), true
	}
	return api.Reply{}, false
}

// answer answers a job.
func (g *Gate) answer(tag int, r api.Reply) {
	r.Tag = tag
	g.replies = append(g.replies, r)
	delete(g.jobs, tag)
}

// refusal is what an error answers.
func (g *Gate) refusal(e api.Errno) api.Reply {
	r := api.Reply{Code: e, Leader: nobody}
	if e == api.ErrLeader {
		r.Leader = g.node.Raft().Leader()
	}
	return r
}
