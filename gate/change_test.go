package gate_test

import (
	"slices"
	"testing"

	"stowage/api"
	"stowage/disk"
	"stowage/extent"
	"stowage/gate"
	"stowage/meta"
	"stowage/node"
	"stowage/shot"
)

// kept is a note that tells that an extent is kept, or not.
func kept(from, to int, body string, yes bool) api.Note {
	return api.Note{Kind: api.NoteStored, From: from, To: to, ID: extent.ID(body), Yes: yes}
}

// hears lets a note come.
func (c *cluster) hears(i int, n api.Note) {
	c.t.Helper()
	c.do(i, func(g *gate.Gate) { g.Hear(n) })
}

// What becomes of a request, 2: each other member is told to keep each extent, and the command is laid when a majority has told that it does, of each.
func TestMajority(t *testing.T) {
	c := led(t, 5)
	body := bytesOf(5000)
	cut := extent.Cut(body)
	before := c.last(0)
	tag := c.ask(0, puts("k", body))
	told := map[[2]int]bool{}
	for _, n := range c.notes {
		place := slices.Index(cut, n.Data)
		if n.Kind != api.NoteStore || n.From != 0 || place < 0 || n.ID != extent.ID(n.Data) || !gate.Check(n) {
			t.Fatalf("told %s", short(n))
		}
		told[[2]int{n.To, place}] = true
	}
	if len(told) != 8 || len(c.notes) != 8 {
		t.Fatalf("%d notes, to %v", len(c.notes), told)
	}
	for _, s := range cut {
		if !c.hosts[0].x.Has(extent.ID(s)) {
			t.Errorf("the node itself does not keep an extent")
		}
	}
	c.notes = nil
	for _, n := range []api.Note{
		kept(1, 0, cut[0], true), kept(1, 0, cut[0], true), kept(1, 0, cut[0], true), kept(2, 0, cut[0], true), // enough of the first one
		kept(1, 0, cut[1], true), kept(1, 0, cut[1], true), // one node twice
		kept(2, 0, cut[1], false), kept(3, 0, cut[1], false), kept(4, 0, cut[1], false), // No
		kept(5, 0, cut[1], true), kept(6, 0, cut[1], true), // no members
		kept(2, 0, "other", true), kept(2, 0, body[:100], true), // other extents
		kept(2, 1, cut[1], true), // to another node
		{Kind: api.NoteStored, From: 0, To: 0, ID: extent.ID(cut[1]), Yes: true},                // of the node itself
		{Kind: api.NoteFetched, From: 2, To: 0, ID: extent.ID(cut[1]), Yes: true, Data: cut[1]}, // told otherwise
		{Kind: api.NoteStored, From: 2, To: 0, ID: extent.ID(cut[1]), Yes: true, Data: cut[1]},  // with bytes that may not be
		{Kind: api.NoteStore, From: 2, To: 0, ID: extent.ID(cut[1]), Data: cut[1]},              // asked, not told
		{Kind: api.NoteFetch, From: 2, To: 0, ID: extent.ID(cut[1])}, kept(1, 0, cut[1], false), // likewise
	} {
		c.hears(0, n)
		if c.last(0) != before {
			t.Fatalf("laid behind %s", short(n))
		}
		c.waits(0, tag)
	}
	c.hears(0, kept(3, 0, cut[1], true)) // who said No may say Yes later
	if c.last(0) != before+1 {
		t.Fatalf("not laid when a majority has told that it keeps each extent")
	}
	c.hears(0, kept(4, 0, cut[1], true))
	if c.last(0) != before+1 {
		t.Fatalf("laid again")
	}
	c.waits(0, tag)
	c.comes()
	c.answered(0, tag, done(0, before+1, sumOf(body), ""))
}

// What becomes of a request, 2: in a cluster of two, three and five the others are told, keep the extents, and the command is laid and answered.
func TestKeptByOthers(t *testing.T) {
	for _, n := range []int{2, 3, 4, 5, 7} {
		c := led(t, n)
		body := bytesOf(3 * api.MaxExtent)
		for _, w := range []api.Want{puts("k", body), puts("e", ""), cmd(api.Cmd{Kind: api.CmdBegin, Bucket: "one", Key: "u"})} {
			tag := c.ask(0, w)
			c.comes()
			r := c.hosts[0].got[tag]
			if r.Code != api.OK || r.ID == 0 {
				t.Fatalf("%d nodes: %s: %s", n, short(w), short(r))
			}
		}
		part := api.Want{Kind: api.WantCmd, Cmd: api.Cmd{Kind: api.CmdPart, Bucket: "one", Key: "u", ID: c.last(0), N: 4}, Body: "part"}
		tag := c.ask(0, part)
		c.comes()
		c.answered(0, tag, done(0, 4, sumOf("part"), ""))
		c.ticks(3)
		for i, h := range c.hosts {
			for _, s := range append(extent.Cut(body), "part") {
				if !h.x.Has(extent.ID(s)) {
					t.Errorf("%d nodes: the node %d does not keep an extent", n, i)
				}
			}
			if h.g.Machine().Save() != c.hosts[0].g.Machine().Save() {
				t.Errorf("%d nodes: the node %d has another machine", n, i)
			}
		}
	}
}

// What becomes of a request, 2: the node itself counts only if it is a member, and members are those of then.
func TestMajorityOfMembers(t *testing.T) {
	c := led(t, 3)
	c.loses = func(api.Msg) bool { return true }
	c.drops = func(api.Note) bool { return true }
	c.ask(0, drops(0))
	before := c.last(0)
	c.ask(0, puts("k", "hi"))
	if l := c.under(api.NoteStore); len(l) != 2 || l[0].To != 1 || l[1].To != 2 {
		t.Errorf("told %v", l)
	}
	c.hears(0, kept(1, 0, "hi", true))
	if c.last(0) != before {
		t.Fatalf("laid when one of two members has told that it keeps the extent")
	}
	c.hears(0, kept(2, 0, "hi", true))
	if c.last(0) != before+1 {
		t.Fatalf("not laid when both members have told that they keep the extent")
	}

	c = led(t, 3)
	c.loses = func(api.Msg) bool { return true }
	c.drops = func(api.Note) bool { return true }
	c.ask(0, puts("k", "hi"))
	c.ask(0, adds(3))
	before = c.last(0)
	c.hears(0, kept(1, 0, "hi", true))
	if c.last(0) != before {
		t.Fatalf("laid when two of four members keep the extent")
	}
	c.hears(0, kept(3, 0, "hi", true))
	if c.last(0) != before+1 {
		t.Fatalf("not laid when three of four members keep the extent")
	}
}

// What becomes of a request, 4: an entry of another term in the place of the one that was laid.
func TestIndexOfAnotherTerm(t *testing.T) {
	c := led(t, 3)
	c.off[0] = true
	tag := c.ask(0, marks("lost"))
	index := c.last(0)
	c.ticks(30)
	c.leads(1)
	c.follows(0)
	c.waits(0, tag)
	other := c.ask(1, puts("k", "hi"))
	c.comes()
	c.answered(1, other, done(0, c.last(1), sumOf("hi"), ""))
	c.waits(0, tag)
	c.off[0] = false
	c.ticks(5)
	c.answered(0, tag, failed(0, api.ErrBusy))
	if c.last(1) <= index || c.hosts[0].n.Raft().Commit() < index {
		t.Fatalf("the index %d was not handed out", index)
	}
	if v, e := c.hosts[0].g.Machine().Get("one", "lost", 0); e != api.ErrKey {
		t.Errorf("what was lost is there: %v, %v", v, e)
	}
}

// What becomes of a request, 4: the entry that was laid is handed out when the node does not lead any more.
func TestIndexOfSameTerm(t *testing.T) {
	c := led(t, 3)
	c.loses = func(m api.Msg) bool { return m.To == 0 }
	tag := c.ask(0, marks("kept"))
	index := c.last(0)
	c.comes()
	c.waits(0, tag)
	c.off[0] = true
	c.ticks(30)
	c.leads(1)
	c.follows(0)
	c.waits(0, tag)
	c.off[0], c.loses = false, nil
	c.ticks(5)
	c.follows(0)
	c.answered(0, tag, done(0, index, "", ""))
}

// What becomes of a request, 4: two jobs that wait for one index, of which one was laid in the term of its entry.
func TestIndexTwice(t *testing.T) {
	g, _ := crafted(t)
	for range 3 {
		g.Ask(makes("one")) // the indexes 2 to 4
	}
	// Another leader's entry stands in the place of all of them, and then the node leads again.
	g.Step(api.Msg{Kind: api.MsgAppend, From: 1, To: 0, Term: 2, Index: 1, LogTerm: 1, Commit: 1, Entries: []api.Entry{{Term: 2, Kind: api.EntryNoop}}})
	for range 12 {
		g.Tick(0)
	}
	g.Step(api.Msg{Kind: api.MsgVoted, From: 2, To: 0, Term: 3, Yes: true})
	g.Ask(makes("two")) // the index 4, too
	if index, term := g.Node().Raft().Last(); index != 4 || term != 3 || g.Jobs() != 4 || len(g.Replies()) != 0 {
		t.Fatalf("the last entry is %d of %d, %d jobs wait", index, term, g.Jobs())
	}
	g.Step(api.Msg{Kind: api.MsgAppended, From: 2, To: 0, Term: 3, Index: 4, Yes: true})
	want := []api.Reply{failed(1, api.ErrBusy), failed(2, api.ErrBusy), failed(3, api.ErrBusy), done(4, 0, "", "")}
	if l := g.Replies(); !slices.Equal(l, want) {
		t.Errorf("two of one index: %v", l)
	}
	if l := g.Machine().Buckets(); !slices.Equal(l, []string{"two"}) {
		t.Errorf("the buckets are %q", l)
	}
}

// What becomes of a request, 4: a snapshot that stands in the place of the entry.
func TestSnapshotBehindIndex(t *testing.T) {
	c := led(t, 3)
	c.off[0] = true
	tag := c.ask(0, marks("lost"))
	index := c.last(0)
	c.ticks(25)
	c.leads(1)
	for i := range 30 {
		c.ask(1, puts("k", string(rune('a'+i))))
		c.comes()
	}
	c.ticks(2)
	if c.hosts[1].n.Raft().Base().Index <= index {
		t.Fatalf("the log was not cut: %d", c.hosts[1].n.Raft().Base().Index)
	}
	c.waits(0, tag)
	c.off[0] = false
	c.ticks(5)
	c.answered(0, tag, failed(0, api.ErrBusy))
	if c.hosts[0].n.Raft().Base().Index <= index {
		t.Errorf("no snapshot came")
	}
	c.off[1] = true
	c.ticks(40)
	c.leads(0)
	tag = c.ask(0, reads("k", 0))
	c.ticks(3)
	c.answered(0, tag, done(0, c.hosts[0].got[tag].ID, sumOf(string(rune('a'+29))), string(rune('a'+29))))
}

// crafted is a node of three that leads in the term 1, whose first entry is committed; the others are played by hand.
func crafted(t *testing.T) (*gate.Gate, *disk.Disk) {
	t.Helper()
	d := disk.New()
	n, e := node.Open(d, 0, []int{0, 1, 2}, 0)
	if e != api.OK {
		t.Fatalf("node.Open: %v", e)
	}
	x, _, _ := extent.Open(d)
	g, e := gate.New(n, x)
	if e != api.OK {
		t.Fatalf("New: %v", e)
	}
	for range 10 {
		g.Tick(0)
	}
	g.Step(api.Msg{Kind: api.MsgVoted, From: 1, To: 0, Term: 1, Yes: true})
	g.Step(api.Msg{Kind: api.MsgAppended, From: 1, To: 0, Term: 1, Index: 1, Yes: true})
	if r := n.Raft(); r.Role() != api.Leader || r.Commit() != 1 {
		t.Fatalf("it does not lead")
	}
	g.Sent()
	return g, d
}

// snapshot is a message with a whole snapshot.
func snapshot(t *testing.T, term, index, of int, data string) api.Msg {
	t.Helper()
	text, e := shot.Encode(api.Shot{Index: index, Term: of, Members: []int{0, 1, 2}, Data: data})
	if e != api.OK {
		t.Fatalf("no snapshot: %v", e)
	}
	return api.Msg{Kind: api.MsgShot, From: 1, To: 0, Term: term, Index: index, LogTerm: of, Data: text, Yes: true}
}

// What becomes of a request, 4: which indexes a snapshot stands behind.
func TestSnapshotBehindWhich(t *testing.T) {
	g, _ := crafted(t)
	for range 4 {
		g.Ask(makes("one")) // the indexes 2 to 5
	}
	m := meta.New()
	m.Apply(2, api.Cmd{Kind: api.CmdMake, Bucket: "two"})
	g.Step(snapshot(t, 2, 3, 2, m.Save()))
	want := []api.Reply{failed(1, api.ErrBusy), failed(2, api.ErrBusy)}
	if l := g.Replies(); !slices.Equal(l, want) || g.Jobs() != 2 {
		t.Fatalf("a snapshot up to 3: %v, %d jobs", l, g.Jobs())
	}
	if !slices.Equal(g.Machine().Buckets(), []string{"two"}) || g.Node().Raft().Base().Index != 3 {
		t.Errorf("the machine is not that which the snapshot says: %q", g.Machine().Buckets())
	}
	// The next one is handed out: of another term.
	g.Step(api.Msg{Kind: api.MsgAppend, From: 1, To: 0, Term: 2, Index: 3, LogTerm: 2, Commit: 4, Entries: []api.Entry{{Term: 2, Kind: api.EntryNoop}}})
	if l := g.Replies(); !slices.Equal(l, []api.Reply{failed(3, api.ErrBusy)}) || g.Jobs() != 1 {
		t.Fatalf("an entry of another term: %v, %d jobs", l, g.Jobs())
	}
	// An index that is not agreed on is not handed out.
	g.Step(api.Msg{Kind: api.MsgAppend, From: 1, To: 0, Term: 2, Index: 4, LogTerm: 2, Commit: 4, Entries: []api.Entry{{Term: 2, Data: textOf(makes("one"))}}})
	if l := g.Replies(); len(l) != 0 || g.Jobs() != 1 {
		t.Fatalf("an entry that is not agreed on: %v", l)
	}
	// The same command is another one, in another term.
	g.Step(api.Msg{Kind: api.MsgAppend, From: 1, To: 0, Term: 2, Index: 5, LogTerm: 2, Commit: 5})
	if l := g.Replies(); !slices.Equal(l, []api.Reply{failed(4, api.ErrBusy)}) || !slices.Equal(g.Machine().Buckets(), []string{"one", "two"}) {
		t.Fatalf("the same command of another term: %v, %q", l, g.Machine().Buckets())
	}
}

// Promise 21.2: a snapshot of no Data is a new machine; one that says no machine leaves none to ask, until another one comes.
func TestSnapshotOfNoMachine(t *testing.T) {
	g, _ := crafted(t)
	g.Ask(makes("one"))
	g.Step(api.Msg{Kind: api.MsgAppended, From: 1, To: 0, Term: 1, Index: 2, Yes: true})
	if l := g.Replies(); len(l) != 1 || l[0] != done(1, 0, "", "") {
		t.Fatalf("a bucket: %v", l)
	}
	g.Step(snapshot(t, 2, 5, 2, ""))
	if g.Machine() == nil || len(g.Machine().Buckets()) != 0 || g.Machine().Index() != 0 {
		t.Errorf("a snapshot of no Data: %q", g.Machine().Save())
	}
	g.Step(snapshot(t, 2, 7, 2, "no machine"))
	for i := range 30 {
		g.Step(api.Msg{Kind: api.MsgAppend, From: 1, To: 0, Term: 2, Index: 7 + i, LogTerm: 2, Commit: 8 + i, Entries: []api.Entry{{Term: 2, Data: textOf(makes("one"))}}})
	}
	for range 40 {
		g.Tick(0)
	}
	if r := g.Node().Raft(); r.Commit() != 37 || r.Base().Index != 7 {
		t.Errorf("the log of no machine was cut at %d", r.Base().Index)
	}
	g.Ask(buckets())
	if l := g.Replies(); len(l) != 1 || l[0] != failed(2, api.ErrDown) {
		t.Errorf("without a machine: %v", l)
	}
	g.Step(snapshot(t, 9, 38, 2, filled(t).Save()))
	if g.Machine().Save() != filled(t).Save() {
		t.Errorf("another snapshot: %q", g.Machine().Save())
	}
}

// What becomes of a request, 3: other configurations, and those that are refused.
func TestWantNode(t *testing.T) {
	c := newCluster(t, 5, 0, 1, 2)
	c.ticks(15)
	c.leads(0)
	isOf := func(i int, want ...int) {
		t.Helper()
		if l := c.hosts[i].n.Raft().Members(); !slices.Equal(l, want) {
			t.Fatalf("the node %d: the members are %v, not %v", i, l, want)
		}
	}
	for _, s := range []struct {
		w api.Want
		e api.Errno
	}{{adds(0), api.ErrThere}, {adds(2), api.ErrThere}, {drops(3), api.ErrNone}, {drops(6), api.ErrNone}} {
		before := c.last(0)
		tag := c.ask(0, s.w)
		c.answered(0, tag, failed(0, s.e))
		if c.last(0) != before {
			t.Errorf("what was refused was laid")
		}
	}
	tag := c.ask(0, adds(3))
	busy := c.ask(0, adds(4))
	c.answered(0, busy, failed(0, api.ErrBusy))
	c.waits(0, tag)
	c.comes()
	c.answered(0, tag, done(0, 0, "", ""))
	isOf(0, 0, 1, 2, 3)
	tag = c.ask(0, adds(4))
	c.ticks(3)
	c.answered(0, tag, done(0, 0, "", ""))
	isOf(3, 0, 1, 2, 3, 4)
	tag = c.ask(0, drops(2))
	c.ticks(3)
	c.answered(0, tag, done(0, 0, "", ""))
	// The last thing that a leader does is to drop itself.
	tag = c.ask(0, drops(0))
	c.comes()
	c.answered(0, tag, done(0, 0, "", ""))
	c.follows(0)
	isOf(1, 1, 3, 4)
	c.ticks(40)
	c.follows(0)
	tag = c.ask(1, makes("one"))
	c.comes()
	c.answered(1, tag, done(0, 0, "", ""))
	if v := c.hosts[4].g.Machine().Buckets(); !slices.Equal(v, []string{"one"}) {
		t.Errorf("a node that was added has %q", v)
	}
}

// What becomes of a request, 3: a configuration is refused as long as the leader's own entry is not agreed on.
func TestWantNodeTooEarly(t *testing.T) {
	d := disk.New()
	n, _ := node.Open(d, 0, []int{0, 1, 2}, 0)
	x, _, _ := extent.Open(d)
	g, _ := gate.New(n, x)
	for range 10 {
		g.Tick(0)
	}
	g.Step(api.Msg{Kind: api.MsgVoted, From: 1, To: 0, Term: 1, Yes: true})
	g.Ask(adds(3))
	g.Ask(buckets())
	g.Ask(makes("one"))
	want := []api.Reply{failed(1, api.ErrBusy), failed(2, api.ErrBusy)}
	if l := g.Replies(); !slices.Equal(l, want) || g.Jobs() != 1 {
		t.Errorf("ahead of what a leader agrees on first: %v, %d jobs", l, g.Jobs())
	}
}

// Promise 21.5: one token, at two nodes.
func TestOnce(t *testing.T) {
	c := led(t, 3)
	w := withToken(puts("k", "hi"), "a")
	tag := c.ask(0, w)
	c.comes()
	index := c.last(0)
	c.answered(0, tag, done(0, index, sumOf("hi"), ""))
	// One more is laid there, and its answer gets lost with the node.
	lost := withToken(puts("j", "ho"), "b")
	c.ask(0, lost)
	c.loses = func(m api.Msg) bool { return m.To == 0 }
	c.comes()
	second := c.last(0)
	c.fail(0)
	c.loses = nil
	c.ticks(40)
	c.leads(1)
	for range 2 {
		tag = c.ask(1, w)
		c.comes()
		c.answered(1, tag, done(0, index, sumOf("hi"), ""))
		tag = c.ask(1, lost)
		c.comes()
		c.answered(1, tag, done(0, second, sumOf("ho"), ""))
	}
	tag = c.ask(1, withToken(puts("k", "other"), "a"))
	c.comes()
	c.answered(1, tag, failed(0, api.ErrClash))
	l, _ := c.hosts[1].g.Machine().Chain("one", "k")
	if len(l) != 1 {
		t.Errorf("a command with a token was done %d times", len(l))
	}
	tag = c.ask(1, cmd(api.Cmd{Kind: api.CmdExpire, ID: index}))
	c.comes()
	c.answered(1, tag, done(0, 1, "", ""))
	tag = c.ask(1, w)
	c.comes()
	c.answered(1, tag, done(0, c.last(1), sumOf("hi"), ""))
	tag = c.ask(1, lost)
	c.comes()
	c.answered(1, tag, done(0, second, sumOf("ho"), ""))
}
