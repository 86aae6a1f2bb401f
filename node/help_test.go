package node_test

import (
	"fmt"
	"maps"
	"slices"
	"strings"
	"testing"

	"stowage/api"
	"stowage/conf"
	"stowage/disk"
	"stowage/node"
	"stowage/raft"
	"stowage/shot"
	"stowage/wal"
)

// state is what a node is to keep.
type state struct {
	term, vote int
	base       api.Shot
	entries    []api.Entry
}

func sameShot(a, b api.Shot) bool {
	return a.Index == b.Index && a.Term == b.Term && a.Data == b.Data && slices.Equal(a.Members, b.Members)
}

func (a state) sameHard(b state) bool { return a.term == b.term && a.vote == b.vote }

func (a state) same(b state) bool {
	return a.sameHard(b) && sameShot(a.base, b.base) && slices.Equal(a.entries, b.entries)
}

func (a state) String() string {
	s := fmt.Sprintf("term %d, vote %d, base %d %d %v %.20q, entries", a.term, a.vote, a.base.Index, a.base.Term, a.base.Members, a.base.Data)
	for _, e := range a.entries {
		s += fmt.Sprintf(" %d:%d:%.12q", e.Term, e.Kind, e.Data)
	}
	return s
}

// of is what a node of layer 10 is to keep.
func of(r *raft.Node) state {
	var a state
	a.term, a.vote = r.Hard()
	a.base = r.Base()
	last, _ := r.Last()
	for i := a.base.Index + 1; i <= last; i++ {
		e, _ := r.Entry(i)
		a.entries = append(a.entries, e)
	}
	return a
}

// files are the bytes of files by their names.
type files = map[string]string

// on is all files of a disk.
func on(d *disk.Disk) files {
	all := files{}
	for _, name := range d.Names() {
		all[name], _ = d.Read(name)
	}
	return all
}

func ok(t *testing.T, what string, e api.Errno) {
	t.Helper()
	is(t, what, e, api.OK)
}

func is(t *testing.T, what string, e, want api.Errno) {
	t.Helper()
	if e != want {
		t.Fatalf("%s: %v, not %v", what, e, want)
	}
}

// opened is the node of a disk, its wait ten ticks.
func opened(t *testing.T, d *disk.Disk, me int, members ...int) *node.Node {
	t.Helper()
	n, e := node.Open(d, me, members, 0)
	if e != api.OK || n == nil {
		t.Fatalf("Open: %v", e)
	}
	return n
}

// behindLoss is what stands up from a disk when the power fails right now; the disk itself stays as it is.
func behindLoss(t *testing.T, what string, d *disk.Disk, me int, members ...int) state {
	t.Helper()
	c := d.Clone()
	c.Plan(nil)
	c.Room(-1)
	c.Fail(0, 0)
	c.Up()
	n, e := node.Open(c, me, members, 0)
	if e != api.OK {
		t.Fatalf("%s: Open behind a loss of power: %v", what, e)
	}
	return of(n.Raft())
}

// isKept asks that a loss of power right now loses nothing of what the node has, and that nothing waits.
func isKept(t *testing.T, what string, n *node.Node, d *disk.Disk, members ...int) {
	t.Helper()
	if d.Waits() != 0 {
		t.Fatalf("%s: %d changes wait", what, d.Waits())
	}
	if is, was := behindLoss(t, what, d, n.Me(), members...), of(n.Raft()); !is.same(was) {
		t.Fatalf("%s: behind a loss of power:\n%v\nnot\n%v", what, is, was)
	}
}

// disked is what wal and shot lay on a disk.
type disked struct {
	shot        api.Shot // if it has members
	log         bool     // there is a log
	index, base int      // the log's base
	entries     []api.Entry
	term, vote  int // hard, if the term is above 0
}

func (a disked) disk(t *testing.T) *disk.Disk {
	t.Helper()
	d := disk.New()
	if len(a.shot.Members) > 0 {
		ok(t, "Save", shot.Save(d, a.shot))
	}
	if !a.log {
		return d
	}
	l, e := wal.Open(d)
	ok(t, "wal.Open", e)
	if a.index > 0 || a.base > 0 {
		ok(t, "Reset", l.Reset(a.index, a.base))
	}
	ok(t, "Append", l.Append(a.index+1, a.entries))
	if a.term > 0 {
		ok(t, "SetHard", l.SetHard(a.term, a.vote))
	}
	return d
}

// entriesOf are entries of some terms, each with bytes of its own.
func entriesOf(terms ...int) []api.Entry {
	var l []api.Entry
	for i, term := range terms {
		l = append(l, api.Entry{Term: term, Data: fmt.Sprint(i+1, " of ", term)})
	}
	return l
}

// many is one number again and again.
func many(n, count int) []int { return slices.Repeat([]int{n}, count) }

// noop is the first entry of a leader.
func noop(term int) api.Entry { return api.Entry{Term: term, Kind: api.EntryNoop} }

// says is an entry with a configuration.
func says(term int, members ...int) api.Entry {
	s, _ := conf.Encode(members)
	return api.Entry{Term: term, Kind: api.EntryConf, Data: s}
}

// shotOf is a snapshot with so many bytes.
func shotOf(index, term, bytes int, members ...int) api.Shot {
	return api.Shot{Index: index, Term: term, Members: members, Data: strings.Repeat(fmt.Sprint(index%10), bytes)}
}

// ticks lets some pass, with the draw 0: all that is told.
func ticks(t *testing.T, n *node.Node, count int) []api.Msg {
	t.Helper()
	var told []api.Msg
	for range count {
		l, e := n.Tick(0)
		ok(t, "Tick", e)
		told = append(told, l...)
	}
	return told
}

// leads makes a node lead: it waits, and all others of its members vote for it.
func leads(t *testing.T, n *node.Node) {
	t.Helper()
	for i := 0; i < 40 && n.Raft().Role() == api.Follower; i++ {
		ticks(t, n, 1)
	}
	term, me := n.Raft().Hard()
	for _, other := range n.Raft().Members() {
		if other != me && n.Raft().Role() == api.Candidate {
			_, e := n.Step(api.Msg{Kind: api.MsgVoted, From: other, To: me, Term: term, Yes: true})
			ok(t, "Step of a vote", e)
		}
	}
	if n.Raft().Role() != api.Leader {
		t.Fatalf("it does not lead")
	}
}

// laid is a leader's message behind an entry.
func laid(from, to, term, index, logTerm, commit int, l ...api.Entry) api.Msg {
	return api.Msg{Kind: api.MsgAppend, From: from, To: to, Term: term, Index: index, LogTerm: logTerm, Commit: commit, Entries: l}
}

// stepped lets a message come that is taken: all that is told.
func stepped(t *testing.T, what string, n *node.Node, l ...api.Msg) []api.Msg {
	t.Helper()
	var told []api.Msg
	for _, m := range l {
		got, e := n.Step(m)
		ok(t, what, e)
		told = append(told, got...)
	}
	return told
}

// pieces are a snapshot as a leader's messages.
func pieces(t *testing.T, from, to, term int, s api.Shot) []api.Msg {
	t.Helper()
	text, e := shot.Encode(s)
	ok(t, "Encode", e)
	var l []api.Msg
	for at := 0; at < len(text); at += raft.Piece {
		end := min(at+raft.Piece, len(text))
		l = append(l, api.Msg{Kind: api.MsgShot, From: from, To: to, Term: term, Index: s.Index, LogTerm: s.Term, At: at, Yes: end == len(text), Data: text[at:end]})
	}
	return l
}

// handsNone asks that no entry is handed out.
func handsNone(t *testing.T, what string, n *node.Node) {
	t.Helper()
	if e, i, is := n.Next(); is || i != 0 || e != (api.Entry{}) {
		t.Fatalf("%s: Next: %v, %d, %v", what, e, i, is)
	}
}

// hands asks that just these entries are handed out, from an index on.
func hands(t *testing.T, what string, n *node.Node, from int, l ...api.Entry) {
	t.Helper()
	for k, want := range l {
		if e, i, is := n.Next(); !is || i != from+k || e != want {
			t.Fatalf("%s: Next: %v, %d, %v, not %v, %d", what, e, i, is, want, from+k)
		}
	}
	handsNone(t, what, n)
}

// takesNone asks that there is no snapshot to begin with.
func takesNone(t *testing.T, what string, n *node.Node) {
	t.Helper()
	if s, is := n.Taken(); is || !sameShot(s, api.Shot{}) {
		t.Fatalf("%s: Taken: %v, %v", what, s, is)
	}
}

// takes asks for a snapshot to begin with, which is told once, and that no entry is handed out ahead of it.
func takes(t *testing.T, what string, n *node.Node, want api.Shot) {
	t.Helper()
	handsNone(t, what+", ahead of Taken", n)
	if s, is := n.Taken(); !is || !sameShot(s, want) {
		t.Fatalf("%s: Taken: %v, %v, not %v", what, s, is, want)
	}
	takesNone(t, what+", again", n)
}

// isDown asks that a node is down: each call answers that, and nothing is told.
func isDown(t *testing.T, what string, n *node.Node, me, times int) {
	t.Helper()
	refuses(t, what, n, api.ErrDown)
	if n.Me() != me || n.Times() != times {
		t.Fatalf("%s: Me %d, Times %d", what, n.Me(), n.Times())
	}
}

// refuses asks that each call answers an error, and tells nothing.
func refuses(t *testing.T, what string, n *node.Node, want api.Errno) {
	t.Helper()
	if n.Raft() != nil || n.Sure(0, 0) || n.Sure(1, 0) {
		t.Fatalf("%s: Raft, Sure", what)
	}
	handsNone(t, what, n)
	takesNone(t, what, n)
	for _, c := range calls() {
		if a := c.do(n); a.e != want || len(a.told) != 0 || a.index != 0 || a.round != 0 {
			t.Fatalf("%s: %s: %v", what, c.name, a)
		}
	}
}

// answer is what a call answers.
type answer struct {
	round, index int
	told         []api.Msg
	e            api.Errno
}

// call is a call that answers an error.
type call struct {
	name string
	do   func(n *node.Node) answer
}

func tick(draw int) call {
	return call{fmt.Sprintf("Tick(%d)", draw), func(n *node.Node) answer {
		l, e := n.Tick(draw)
		return answer{told: l, e: e}
	}}
}

func step(name string, m api.Msg) call {
	return call{"Step of " + name, func(n *node.Node) answer {
		l, e := n.Step(m)
		return answer{told: l, e: e}
	}}
}

func propose(data string) call {
	return call{fmt.Sprintf("Propose(%.10q, %d bytes)", data, len(data)), func(n *node.Node) answer {
		i, l, e := n.Propose(data)
		return answer{index: i, told: l, e: e}
	}}
}

func change(members ...int) call {
	return call{fmt.Sprintf("Change(%v)", members), func(n *node.Node) answer {
		i, l, e := n.Change(members)
		return answer{index: i, told: l, e: e}
	}}
}

func read() call {
	return call{"Read", func(n *node.Node) answer {
		round, i, l, e := n.Read()
		return answer{round, i, l, e}
	}}
}

func compact(index int, data string) call {
	return call{fmt.Sprintf("Compact(%d, %d bytes)", index, len(data)), func(n *node.Node) answer {
		return answer{e: n.Compact(index, data)}
	}}
}

// calls are each of them, with right arguments and wrong ones.
func calls() []call {
	return []call{
		tick(0), tick(-1), step("nothing", api.Msg{}), step("entries", laid(1, 0, 9, 0, 0, 0)),
		propose("x"), propose(strings.Repeat("x", api.MaxData+1)), change(0, 1), change(), read(),
		compact(1, "x"), compact(0, ""), compact(-1, ""), compact(1, strings.Repeat("x", api.MaxShot+1)),
	}
}

// trace is the changes of what is done to a disk, one by one, and where they are made sure. It is found by letting the power fail at each of them; fresh is the same disk again and again, and what is done to it.
func trace(fresh func() (*disk.Disk, func())) []string {
	var steps []string
	d, _ := fresh()
	before := on(d)
	for k := 0; ; k++ {
		all := struck(fresh, k, 1<<30)
		if all == nil {
			break
		}
		if sure := struck(fresh, k, 0); k > 0 && maps.Equal(sure, before) {
			steps = append(steps, "sync")
		}
		steps = append(steps, difference(before, all))
		before = all
	}
	d, do := fresh()
	d.Append("other", "")
	do()
	if d.Waits() == 0 {
		steps = append(steps, "sync")
	}
	return steps
}

// struck is the files behind a fall at a change of what is done; nil, if it did not strike.
func struck(fresh func() (*disk.Disk, func()), k, keep int) files {
	d, do := fresh()
	d.Plan([]api.Fall{{At: d.Changes() + k, Keep: keep}})
	do()
	if !d.Up() {
		return nil
	}
	return on(d)
}

// difference is the change that makes files into others.
func difference(from, to files) string {
	var l []string
	for name, s := range to {
		old, was := from[name]
		switch {
		case was && old == s:
		case !was:
			l = append(l, "make "+name)
		case strings.HasPrefix(s, old):
			l = append(l, "append "+name)
		case strings.HasPrefix(old, s):
			l = append(l, "cut "+name)
		default:
			l = append(l, "write "+name)
		}
	}
	for name := range from {
		if _, is := to[name]; !is {
			l = append(l, "remove "+name)
		}
	}
	slices.Sort(l)
	return strings.Join(l, ", ")
}
