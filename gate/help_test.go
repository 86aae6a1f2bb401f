package gate_test

import (
	"fmt"
	"reflect"
	"slices"
	"strings"
	"testing"
	"unsafe"

	"stowage/api"
	commands "stowage/cmd"
	"stowage/digest"
	"stowage/disk"
	"stowage/extent"
	"stowage/gate"
	"stowage/meta"
	"stowage/node"
)

// rep is one text n times.
func rep(s string, n int) string { return strings.Repeat(s, n) }

// sumOf is the digest of bytes as digits.
func sumOf(s string) string { return digest.Hex(digest.Sum(s)) }

// short is a value as a text, or its beginning.
func short(v any) string {
	s := fmt.Sprintf("%+v", v)
	return s[:min(len(s), 300)]
}

// bytesOf are n bytes, unlike one another's extents.
func bytesOf(n int) string {
	var b strings.Builder
	for b.Len() < n {
		fmt.Fprintf(&b, "%d,", b.Len())
	}
	return b.String()[:n]
}

// cmd is that a command is wanted.
func cmd(c api.Cmd) api.Want { return api.Want{Kind: api.WantCmd, Cmd: c} }

func makes(bucket string) api.Want {
	return cmd(api.Cmd{Kind: api.CmdMake, Bucket: bucket})
}

func puts(key, body string) api.Want {
	return api.Want{Kind: api.WantCmd, Cmd: api.Cmd{Kind: api.CmdPut, Bucket: "one", Key: key}, Body: body}
}

func marks(key string) api.Want {
	return cmd(api.Cmd{Kind: api.CmdMark, Bucket: "one", Key: key})
}

func reads(key string, id int) api.Want {
	return api.Want{Kind: api.WantRead, Bucket: "one", Key: key, ID: id}
}

func heads(key string, id int) api.Want {
	return api.Want{Kind: api.WantRead, Bucket: "one", Key: key, ID: id, Head: true}
}

func keys() api.Want {
	return api.Want{Kind: api.WantKeys, Bucket: "one", Most: 100}
}

func buckets() api.Want { return api.Want{Kind: api.WantBuckets} }

func adds(n int) api.Want { return api.Want{Kind: api.WantNode, Node: n, Add: true} }

func drops(n int) api.Want { return api.Want{Kind: api.WantNode, Node: n} }

// withToken is the same want with a client's token.
func withToken(w api.Want, token string) api.Want {
	w.Cmd.Token = token
	return w
}

// pieceList are the pieces of a body.
func pieceList(body string) []api.Piece {
	var l []api.Piece
	for _, s := range extent.Cut(body) {
		l = append(l, api.Piece{ID: extent.ID(s), Size: len(s)})
	}
	return l
}

// textOf is the text of the command that a want lays.
func textOf(w api.Want) string {
	c := w.Cmd
	if c.Kind == api.CmdPut || c.Kind == api.CmdPart {
		c.Sum, c.Pieces = sumOf(w.Body), pieceList(w.Body)
	}
	text, _ := commands.Encode(c)
	return text
}

// done is an answer with another code than an error.
func done(tag, id int, sum, body string) api.Reply {
	return api.Reply{Tag: tag, ID: id, Sum: sum, Body: body, Leader: -1}
}

// failed is an answer that tells an error.
func failed(tag int, e api.Errno) api.Reply {
	return api.Reply{Tag: tag, Code: e, Leader: -1}
}

// host is a node on its disk, with a gate.
type host struct {
	d *disk.Disk
	n *node.Node
	x *extent.Store
	g *gate.Gate // nil: it is down

	asked map[int]api.Event // what was not answered yet, by tags
	got   map[int]api.Reply // what was answered, by tags
	order []int             // the tags of what was answered
}

// cluster is nodes with gates, what is under way among them, and what they have agreed on.
type cluster struct {
	t     *testing.T
	first []int
	hosts []*host
	msgs  []api.Msg
	notes []api.Note
	off   map[int]bool          // who is cut off
	loses func(api.Msg) bool    // what is lost beside
	drops func(n api.Note) bool // likewise

	log    []api.Entry // by its index less 1
	end    *meta.Machine
	texts  []string          // the machine's text behind each index
	stored map[string]string // all extents of bodies that were asked for
	events []api.Event       // all that was answered
	taken  int               // how often a node begins with a snapshot
}

// newCluster is a cluster of n nodes, all up, of which the first ones are members.
func newCluster(t *testing.T, n int, first ...int) *cluster {
	c := &cluster{t: t, first: first, off: map[int]bool{}, end: meta.New(), texts: []string{meta.New().Save()}, stored: map[string]string{}}
	for i := range n {
		c.hosts = append(c.hosts, &host{d: disk.New()})
		c.start(i)
	}
	return c
}

// start lets a node stand up from its disk.
func (c *cluster) start(i int) api.Errno {
	h := c.hosts[i]
	h.d.Up()
	h.asked, h.got, h.order = map[int]api.Event{}, map[int]api.Reply{}, nil
	n, e := node.Open(h.d, i, c.first, i)
	if e != api.OK {
		return e
	}
	x, _, e := extent.Open(h.d)
	if e != api.OK {
		return e
	}
	g, e := gate.New(n, x)
	if e != api.OK {
		c.t.Fatalf("New at the node %d: %v", i, e)
	}
	h.n, h.x, h.g = n, x, g
	return api.OK
}

// fail lets the power of a node fail.
func (c *cluster) fail(i int) {
	c.hosts[i].d.Fail(0, 0)
	c.hosts[i].g = nil
}

// do does something at a node that is up, and takes what comes of it.
func (c *cluster) do(i int, what func(g *gate.Gate)) {
	c.t.Helper()
	h := c.hosts[i]
	if h.g == nil {
		return
	}
	base := h.n.Raft().Base().Index
	what(h.g)
	c.look(i)
	msgs, notes := h.g.Sent()
	c.msgs = append(c.msgs, msgs...)
	c.notes = append(c.notes, notes...)
	for _, r := range h.g.Replies() {
		v, is := h.asked[r.Tag]
		if !is {
			c.t.Fatalf("the node %d answered %s, which nobody asked for", i, short(r))
		}
		delete(h.asked, r.Tag)
		h.got[r.Tag], h.order = r, append(h.order, r.Tag)
		v.R, v.To = r, len(c.log)
		c.events = append(c.events, v)
		if !c.fits(v) {
			c.t.Fatalf("the node %d: an answer does not fit: %s", i, short(v))
		}
	}
	if h.g.Jobs() != len(h.asked) {
		c.t.Fatalf("the node %d: %d jobs, not %d", i, h.g.Jobs(), len(h.asked))
	}
	if h.d.Down() {
		h.g = nil
		return
	}
	if now := h.n.Raft().Base().Index; now > base && h.n.Raft().Role() == api.Follower {
		c.taken++
	}
}

// look asks that what a node agrees on is what all do, and that its machine is driven by that.
func (c *cluster) look(i int) {
	c.t.Helper()
	h := c.hosts[i]
	r := h.n.Raft()
	if r == nil {
		return
	}
	for index := r.Base().Index + 1; index <= r.Commit(); index++ {
		entry, _ := r.Entry(index)
		if index > len(c.log)+1 {
			c.t.Fatalf("the node %d agrees on %d, of which nobody did ahead", i, index)
		}
		if index == len(c.log)+1 {
			c.log = append(c.log, entry)
			if entry.Kind == api.EntryData {
				command, _ := commands.Decode(entry.Data)
				c.end.Apply(index, command)
			}
			c.texts = append(c.texts, c.end.Save())
		}
		if c.log[index-1] != entry {
			c.t.Fatalf("the node %d agrees on another entry at %d", i, index)
		}
	}
	if text := h.g.Machine().Save(); text != c.texts[r.Commit()] {
		c.t.Fatalf("the node %d: its machine is not that behind %d", i, r.Commit())
	}
}

// behind is the machine behind an index.
func (c *cluster) behind(index int) *meta.Machine {
	m, e := meta.Load(c.texts[index])
	if e != api.OK {
		c.t.Fatalf("no machine behind %d: %v", index, e)
	}
	return m
}

// fits tells whether an answer is one that the machine gives between asking and answer.
func (c *cluster) fits(v api.Event) bool {
	w, r := v.W, v.R
	bare := r.ID == 0 && r.Sum == "" && r.Body == "" && (r.Leader == -1 || r.Code == api.ErrLeader)
	switch r.Code {
	case api.ErrLeader, api.ErrBusy, api.ErrDown:
		return bare
	}
	if w.Kind == api.WantNode {
		return bare && c.fitsNode(v)
	}
	if w.Kind == api.WantCmd {
		return r.Code == api.ErrFull && bare || r.Code == api.ErrLong && bare && len(w.Body) > api.MaxObject || c.fitsCommand(v)
	}
	for index := v.From; index <= v.To; index++ {
		if c.tells(index, w, r) {
			return true
		}
	}
	return false
}

// fitsNode is fits of another configuration.
func (c *cluster) fitsNode(v api.Event) bool {
	if v.R.Code != api.OK {
		return slices.Contains([]api.Errno{api.ErrThere, api.ErrNone, api.ErrArg, api.ErrConf, api.ErrFull}, v.R.Code)
	}
	return slices.ContainsFunc(c.log[v.From:v.To], func(e api.Entry) bool { return e.Kind == api.EntryConf })
}

// fitsCommand tells whether a command stands in the log between asking and answer, and came out so.
func (c *cluster) fitsCommand(v api.Event) bool {
	text := textOf(v.W)
	for index := v.From + 1; index <= v.To; index++ {
		if e := c.log[index-1]; e.Kind != api.EntryData || e.Data != text {
			continue
		}
		command, _ := commands.Decode(text)
		o := c.behind(index-1).Apply(index, command)
		if want := (api.Reply{Tag: v.R.Tag, Code: api.Errno(o.Code), ID: o.ID, Sum: o.Sum, Leader: -1}); v.R == want {
			return true
		}
	}
	return false
}

// tells tells whether the machine behind an index answers that to what reads.
func (c *cluster) tells(index int, w api.Want, r api.Reply) bool {
	want, pieces := gate.Tell(c.behind(index), w)
	for _, p := range pieces {
		s, is := c.stored[p.ID]
		if !is {
			return false
		}
		want.Body += s
	}
	want.Tag = r.Tag
	return r == want
}

// ask asks a node for something, and is its tag.
func (c *cluster) ask(i int, w api.Want) int {
	c.t.Helper()
	for _, s := range extent.Cut(w.Body) {
		c.stored[extent.ID(s)] = s
	}
	tag := 0
	c.do(i, func(g *gate.Gate) {
		c.t.Helper()
		var e api.Errno
		tag, e = g.Ask(w)
		if e != api.OK {
			c.t.Fatalf("Ask(%s): %v", short(w), e)
		}
		c.hosts[i].asked[tag] = api.Event{From: len(c.log), W: w}
	})
	return tag
}

// answered asks that a node has given an answer.
func (c *cluster) answered(i, tag int, want api.Reply) {
	c.t.Helper()
	want.Tag = tag
	if r, is := c.hosts[i].got[tag]; !is || r != want {
		c.t.Fatalf("the node %d: %d was answered (%v) %s, not %s", i, tag, is, short(r), short(want))
	}
}

// waits asks that a node has not answered something.
func (c *cluster) waits(i, tag int) {
	c.t.Helper()
	if r, is := c.hosts[i].got[tag]; is {
		c.t.Fatalf("the node %d: %d was answered %s", i, tag, short(r))
	}
}

// stepNext lets the message come that was sent first.
func (c *cluster) stepNext() {
	m := c.msgs[0]
	c.msgs = c.msgs[1:]
	if m.To < len(c.hosts) && !c.off[m.From] && !c.off[m.To] && (c.loses == nil || !c.loses(m)) {
		c.do(m.To, func(g *gate.Gate) { g.Step(m) })
	}
}

// hearNext lets the note come that was sent first.
func (c *cluster) hearNext() {
	n := c.notes[0]
	c.notes = c.notes[1:]
	if n.To < len(c.hosts) && !c.off[n.From] && !c.off[n.To] && (c.drops == nil || !c.drops(n)) {
		c.do(n.To, func(g *gate.Gate) { g.Hear(n) })
	}
}

// comes lets all come that is under way, and what that brings.
func (c *cluster) comes() {
	c.t.Helper()
	for range 100000 {
		switch {
		case len(c.msgs) > 0:
			c.stepNext()
		case len(c.notes) > 0:
			c.hearNext()
		default:
			return
		}
	}
	c.t.Fatalf("there is no end of what is under way")
}

// ticks lets ticks pass at all nodes, and all come behind each.
func (c *cluster) ticks(n int) {
	c.t.Helper()
	for range n {
		for i := range c.hosts {
			c.do(i, func(g *gate.Gate) { g.Tick(i) })
		}
		c.comes()
	}
}

// leads asks that a node leads.
func (c *cluster) leads(i int) {
	c.t.Helper()
	if h := c.hosts[i]; h.g == nil || h.n.Raft().Role() != api.Leader {
		c.t.Fatalf("the node %d does not lead", i)
	}
}

// follows asks that a node does not lead.
func (c *cluster) follows(i int) {
	c.t.Helper()
	if h := c.hosts[i]; h.g == nil || h.n.Raft().Role() != api.Follower {
		c.t.Fatalf("the node %d does not follow", i)
	}
}

// led is a cluster of n nodes, all members, that the node 0 leads, with the bucket one.
func led(t *testing.T, n int) *cluster {
	t.Helper()
	var all []int
	for i := range n {
		all = append(all, i)
	}
	c := newCluster(t, n, all...)
	c.ticks(15)
	c.leads(0)
	tag := c.ask(0, makes("one"))
	c.ticks(4)
	c.answered(0, tag, done(0, 0, "", ""))
	return c
}

// alone is a node that leads alone, with the bucket one.
func alone(t *testing.T) *cluster {
	t.Helper()
	return led(t, 1)
}

// last is the last index of a node's log.
func (c *cluster) last(i int) int {
	index, _ := c.hosts[i].n.Raft().Last()
	return index
}

// term is a node's term.
func (c *cluster) term(i int) int {
	term, _ := c.hosts[i].n.Raft().Hard()
	return term
}

// raises makes a follower of a node, by a message of a greater term.
func (c *cluster) raises(i int) {
	c.t.Helper()
	from := (i + 1) % api.MaxNodes
	c.do(i, func(g *gate.Gate) {
		g.Step(api.Msg{Kind: api.MsgVoted, From: from, To: i, Term: c.term(i) + 1})
	})
	c.follows(i)
}

// loseExtent takes an extent from a node's disk.
func (c *cluster) loseExtent(i int, id string) {
	c.t.Helper()
	if e := c.hosts[i].d.Remove("e." + id); e != api.OK {
		c.t.Fatalf("the node %d does not have the extent: %v", i, e)
	}
	c.hosts[i].d.Sync()
}

// spoilExtent lets other bytes stand in the place of an extent.
func (c *cluster) spoilExtent(i int, id string) {
	c.t.Helper()
	d := c.hosts[i].d
	s, e := d.Read("e." + id)
	if e != api.OK {
		c.t.Fatalf("the node %d does not have the extent: %v", i, e)
	}
	d.Write("e."+id, s[:len(s)-1]+"?")
	d.Sync()
}

// under are the notes of a kind that are under way.
func (c *cluster) under(kind int) []api.Note {
	return slices.DeleteFunc(slices.Clone(c.notes), func(n api.Note) bool { return n.Kind != kind })
}

// span is a stretch of memory.
type span struct{ from, to uintptr }

// spans are where the texts and lists of a value stand.
func spans(v reflect.Value) []span {
	switch v.Kind() {
	case reflect.String:
		from := uintptr(unsafe.Pointer(unsafe.StringData(v.String())))
		return []span{{from, from + uintptr(v.Len())}}
	case reflect.Slice:
		l := []span{{v.Pointer(), v.Pointer() + uintptr(v.Cap())*v.Type().Elem().Size()}}
		for i := range v.Len() {
			l = append(l, spans(v.Index(i))...)
		}
		return l
	case reflect.Struct:
		var l []span
		for i := range v.NumField() {
			l = append(l, spans(v.Field(i))...)
		}
		return l
	}
	return nil
}

// apart asks that no two values have memory in common.
func apart(t *testing.T, values ...any) {
	t.Helper()
	for i, a := range values {
		for j, b := range values[:i] {
			for _, x := range spans(reflect.ValueOf(a)) {
				for _, y := range spans(reflect.ValueOf(b)) {
					if x.from < y.to && y.from < x.to {
						t.Errorf("%d and %d have one memory: %s, %s", i, j, short(a), short(b))
						return
					}
				}
			}
		}
	}
}
