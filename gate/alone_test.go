package gate_test

import (
	"fmt"
	"slices"
	"testing"

	"stowage/api"
	commands "stowage/cmd"
	"stowage/disk"
	"stowage/extent"
	"stowage/gate"
	"stowage/meta"
	"stowage/node"
	"stowage/shot"
)

// parts are a node and a store on a disk.
func parts(t *testing.T, d *disk.Disk) (*node.Node, *extent.Store) {
	t.Helper()
	n, e := node.Open(d, 0, []int{0}, 0)
	if e != api.OK {
		t.Fatalf("node.Open: %v", e)
	}
	x, _, e := extent.Open(d)
	if e != api.OK {
		t.Fatalf("extent.Open: %v", e)
	}
	return n, x
}

// Promise 21.2: what New refuses.
func TestNewRefuses(t *testing.T) {
	n, x := parts(t, disk.New())
	d := disk.New()
	down, other := parts(t, d)
	d.Fail(0, 0)
	for _, c := range []struct {
		n *node.Node
		x *extent.Store
	}{{nil, x}, {n, nil}, {nil, nil}, {&node.Node{}, x}, {n, &extent.Store{}}, {down, other}, {down, x}, {down, nil}} {
		if g, e := gate.New(c.n, c.x); g != nil || e != api.ErrArg {
			t.Errorf("New(%v, %v): %v, %v", c.n != nil, c.x != nil, g, e)
		}
	}
	for _, text := range []string{"x", meta.New().Save() + "x", "\x00"} {
		d := disk.New()
		shot.Save(d, api.Shot{Index: 3, Term: 1, Members: []int{0}, Data: text})
		n, x := parts(t, d)
		if g, e := gate.New(n, x); g != nil || e != api.ErrCorrupt {
			t.Errorf("New of a base of %q: %v, %v", text, g, e)
		}
		if n.Raft() == nil || len(d.Names()) != 2 {
			t.Errorf("New of a base of %q has changed something: %q", text, d.Names())
		}
	}
}

// Promise 21.2: a gate begins with the machine that the base says.
func TestNewOfBase(t *testing.T) {
	m := filled(t)
	for _, c := range []struct {
		index int
		data  string
		want  string
	}{{0, "", meta.New().Save()}, {7, "", meta.New().Save()}, {20, m.Save(), m.Save()}, {17, m.Save(), m.Save()}} {
		d := disk.New()
		if c.index > 0 {
			shot.Save(d, api.Shot{Index: c.index, Term: 1, Members: []int{0}, Data: c.data})
		}
		n, x := parts(t, d)
		g, e := gate.New(n, x)
		if e != api.OK || g.Machine().Save() != c.want || g.Node() != n || g.Jobs() != 0 {
			t.Fatalf("New of a base at %d: %v", c.index, e)
		}
		if l, notes := g.Sent(); len(l)+len(notes)+len(g.Replies()) != 0 {
			t.Errorf("New of a base at %d tells something", c.index)
		}
		for range 10 {
			g.Tick(0)
		}
		g.Ask(makes("new"))
		g.Ask(buckets())
		l := g.Replies()
		if len(l) != 2 || l[0] != done(1, 0, "", "") || l[1].Code != api.OK || g.Machine().Index() != c.index+2 {
			t.Errorf("behind a base at %d: %v, index %d", c.index, l, g.Machine().Index())
		}
	}
}

// Promise 21.2: the machine is driven by all that the node hands out: commands, what is no command, and nothing else.
func TestDriven(t *testing.T) {
	n, x := parts(t, disk.New())
	for range 10 {
		n.Tick(0)
	}
	n.Propose(textOf(makes("one")))
	n.Propose("no command")
	n.Change([]int{0, 1})
	n.Step(api.Msg{Kind: api.MsgAppended, From: 1, To: 0, Term: 1, Index: 4, Yes: true})
	g, e := gate.New(n, x)
	if e != api.OK || g.Machine().Index() != 3 || !slices.Equal(g.Machine().Buckets(), []string{"one"}) {
		t.Fatalf("New of a node with entries: %v, index %d, %q", e, g.Machine().Index(), g.Machine().Buckets())
	}
	// Entries that somebody else was handed count as handed out.
	n, x = parts(t, disk.New())
	for range 10 {
		n.Tick(0)
	}
	for is := true; is; {
		_, _, is = n.Next()
	}
	g, _ = gate.New(n, x)
	g.Ask(buckets())
	if l := g.Replies(); len(l) != 1 || l[0] != done(1, 0, "", "") {
		t.Errorf("a reading behind entries that were handed out: %v", l)
	}
	// What another gate is handed is what its own machine is driven by.
	c := alone(t)
	c.do(0, func(g *gate.Gate) {
		g.Node().Propose("no command, either")
		g.Tick(0)
	})
	tag := c.ask(0, marks("k"))
	c.answered(0, tag, done(0, 4, "", ""))
	if g := c.hosts[0].g; g.Machine().Index() != 4 {
		t.Errorf("the machine's index: %d", g.Machine().Index())
	}
}

// Promise 21.2: wants that no request has are refused, and take no tag.
func TestAskRefuses(t *testing.T) {
	c := alone(t)
	g := c.hosts[0].g
	long := reads("k", 0)
	long.Most = 1
	read := reads("k", 0)
	read.Body = "x"
	for _, w := range []api.Want{
		{}, {Kind: 8}, {Kind: -1}, {Kind: api.WantCmd}, makes("ab"), makes(""), makes("one/k"), puts("", "x"), puts("a\x00", "x"), puts(rep("k", api.MaxKey+1), "x"),
		{Kind: api.WantBuckets, Bucket: "one"}, {Kind: api.WantKeys, Bucket: "one"}, {Kind: api.WantKeys, Bucket: "one", Most: 1001}, long, read, reads("k", -1), reads("k", api.MaxTerm+1), reads("", 0),
		adds(7), adds(-1), drops(7), {Kind: api.WantParts, Bucket: "one", Key: "k"}, cmd(api.Cmd{Kind: api.CmdExpire, ID: -1}), cmd(api.Cmd{Kind: 11, Bucket: "one"}),
		withToken(puts("k", "x"), "a b"), withToken(makes("two"), rep("t", 65)), withToken(cmd(api.Cmd{Kind: api.CmdExpire}), "t"), {Kind: api.WantCmd, Cmd: api.Cmd{Kind: api.CmdMake, Bucket: "two"}, Body: "x"},
		cmd(api.Cmd{Kind: api.CmdPut, Bucket: "one", Key: "k", Sum: sumOf("")}), cmd(api.Cmd{Kind: api.CmdPut, Bucket: "one", Key: "k", Pieces: pieceList("x")}),
		cmd(api.Cmd{Kind: api.CmdPart, Bucket: "one", Key: "k", ID: 1, N: api.MaxPart + 1}), cmd(api.Cmd{Kind: api.CmdJoin, Bucket: "one", Key: "k", ID: 1, Picks: []api.Pick{{N: 1, Sum: "x"}}}),
	} {
		before := c.last(0)
		if tag, e := g.Ask(w); tag != 0 || e != api.ErrArg {
			t.Errorf("Ask(%s): %d, %v", short(w), tag, e)
		}
		if l, notes := g.Sent(); len(l)+len(notes)+len(g.Replies())+g.Jobs() != 0 || c.last(0) != before {
			t.Errorf("Ask(%s) has done something", short(w))
		}
	}
	if tag := c.ask(0, buckets()); tag != 2 {
		t.Errorf("the tag behind refusals is %d", tag)
	}
}

// kinds are a want of each kind.
func kinds() []api.Want {
	return []api.Want{
		buckets(), keys(), {Kind: api.WantUploads, Bucket: "one"}, {Kind: api.WantParts, Bucket: "one", Key: "k", ID: 1}, reads("k", 0), heads("k", 3), adds(1), drops(0),
		makes("two"), puts("k", "hi"), puts("k", ""), puts("k", rep("x", api.MaxObject+1)), marks("k"), withToken(marks("k"), "t"), cmd(api.Cmd{Kind: api.CmdExpire, ID: 3}),
		cmd(api.Cmd{Kind: api.CmdBegin, Bucket: "one", Key: "k"}), {Kind: api.WantCmd, Cmd: api.Cmd{Kind: api.CmdPart, Bucket: "one", Key: "k", ID: 1, N: 1}, Body: "x"},
	}
}

// What becomes of a request, 1: a node that is down.
func TestAskDown(t *testing.T) {
	c := alone(t)
	h := c.hosts[0]
	h.d.Fail(0, 0)
	for i, w := range kinds() {
		if tag, e := h.g.Ask(w); tag != i+2 || e != api.OK {
			t.Errorf("Ask(%s): %d, %v", short(w), tag, e)
		}
		if l := h.g.Replies(); len(l) != 1 || l[0] != failed(i+2, api.ErrDown) || h.g.Jobs() != 0 {
			t.Errorf("Ask(%s): %v", short(w), l)
		}
	}
	h.g.Tick(0)
	h.g.Step(api.Msg{Kind: api.MsgVote, From: 1, To: 0, Term: 9})
	if l, notes := h.g.Sent(); len(l)+len(notes)+len(h.g.Replies()) != 0 {
		t.Errorf("a node that is down tells something")
	}
	if h.g.Node() != h.n || h.g.Machine() == nil {
		t.Errorf("a node that is down has no node or machine")
	}
}

// What becomes of a request, 1: a node that does not lead, with and without a leader that is known.
func TestAskElsewhere(t *testing.T) {
	c := newCluster(t, 3, 0, 1, 2)
	asks := func(i, leader int) {
		t.Helper()
		for _, w := range kinds() {
			tag := c.ask(i, w)
			c.answered(i, tag, api.Reply{Code: api.ErrLeader, Leader: leader})
		}
		if h := c.hosts[i]; len(h.x.All()) != 0 || len(c.msgs)+len(c.notes) != 0 {
			t.Errorf("a node that does not lead keeps %d extents, and tells something", len(h.x.All()))
		}
	}
	asks(0, -1)
	c.ticks(20)
	c.leads(0)
	asks(1, 0)
	asks(2, 0)
	c.raises(1)
	asks(1, -1)
}

// Example 1, and 21.2: all that a node alone answers, at once.
func TestAlone(t *testing.T) {
	c := alone(t)
	sum, other := sumOf("hi"), sumOf(bytesOf(5000))
	big := bytesOf(70)
	part := func(n int, body string) api.Want {
		return api.Want{Kind: api.WantCmd, Cmd: api.Cmd{Kind: api.CmdPart, Bucket: "one", Key: "big", ID: 9, N: n}, Body: body}
	}
	joined := api.Part{N: 1, Size: 70, Sum: sumOf(big), Pieces: pieceList(big)}
	join := api.Cmd{Kind: api.CmdJoin, Bucket: "one", Key: "big", ID: 9, Picks: []api.Pick{{N: 1, Sum: joined.Sum}, {N: 3, Sum: sumOf("end")}}}
	// The entries: 1 the leader's, 2 the bucket one.
	for _, s := range []struct {
		w api.Want
		r api.Reply
	}{
		{buckets(), done(0, 0, "", "one\n")},
		{puts("k", "hi"), done(0, 3, sum, "")},
		{reads("k", 0), done(0, 3, sum, "hi")},
		{heads("k", 0), done(0, 3, sum, "")},
		{puts("k", bytesOf(5000)), done(0, 4, other, "")},
		{reads("k", 0), done(0, 4, other, bytesOf(5000))},
		{reads("k", 3), done(0, 3, sum, "hi")},
		{marks("k"), done(0, 5, "", "")},
		{reads("k", 0), failed(0, api.ErrMark)},
		{reads("k", 5), done(0, 5, "", "")},
		{keys(), done(0, 0, "", "")},
		{cmd(api.Cmd{Kind: api.CmdErase, Bucket: "one", Key: "k", ID: 5}), done(0, 5, "", "")},
		{keys(), done(0, 0, "", "k k\n")},
		{cmd(api.Cmd{Kind: api.CmdDrop, Bucket: "one"}), failed(0, api.ErrFilled)},
		{makes("one"), failed(0, api.ErrThere)},
		{cmd(api.Cmd{Kind: api.CmdBegin, Bucket: "one", Key: "big"}), done(0, 9, "", "")},
		{api.Want{Kind: api.WantUploads, Bucket: "one"}, done(0, 0, "", "9 big\n")},
		{part(1, big), done(0, 1, sumOf(big), "")},
		{part(3, "end"), done(0, 3, sumOf("end"), "")},
		{api.Want{Kind: api.WantParts, Bucket: "one", Key: "big", ID: 9}, done(0, 0, "", "1 70 "+sumOf(big)+"\n3 3 "+sumOf("end")+"\n")},
		{cmd(join), done(0, 12, join12(t, big), "")},
		{reads("big", 0), done(0, 12, join12(t, big), big+"end")},
		{cmd(join), failed(0, api.ErrUpload)},
		{withToken(puts("t", "1"), "a"), done(0, 14, sumOf("1"), "")},
		{withToken(puts("t", "1"), "a"), done(0, 14, sumOf("1"), "")},
		{withToken(puts("t", "2"), "a"), failed(0, api.ErrClash)},
		{cmd(api.Cmd{Kind: api.CmdExpire, ID: 14}), done(0, 1, "", "")},
		{withToken(puts("t", "2"), "a"), done(0, 18, sumOf("2"), "")},
		{reads("none", 0), failed(0, api.ErrKey)},
		{reads("k", 17), failed(0, api.ErrVersion)},
		{drops(0), failed(0, api.ErrArg)},
		{drops(1), failed(0, api.ErrNone)},
		{adds(0), failed(0, api.ErrThere)},
	} {
		tag := c.ask(0, s.w)
		c.answered(0, tag, s.r)
	}
	if len(c.msgs)+len(c.notes) != 0 {
		t.Errorf("a node alone tells others: %v, %v", c.msgs, c.notes)
	}
	if tags := c.hosts[0].order; !slices.IsSorted(tags) || tags[len(tags)-1] != 34 {
		t.Errorf("the tags that were answered: %v", tags)
	}
}

// join12 is the digest of a part and the part end, put together.
func join12(t *testing.T, body string) string {
	t.Helper()
	m := meta.New()
	sum := ""
	for i, c := range []api.Cmd{{Kind: api.CmdMake, Bucket: "one"}, {Kind: api.CmdBegin, Bucket: "one", Key: "k"},
		{Kind: api.CmdPart, Bucket: "one", Key: "k", ID: 2, N: 1, Sum: sumOf(body), Pieces: pieceList(body)}, {Kind: api.CmdPart, Bucket: "one", Key: "k", ID: 2, N: 2, Sum: sumOf("end"), Pieces: pieceList("end")},
		{Kind: api.CmdJoin, Bucket: "one", Key: "k", ID: 2, Picks: []api.Pick{{N: 1, Sum: sumOf(body)}, {N: 2, Sum: sumOf("end")}}}} {
		sum = m.Apply(i+1, c).Sum
	}
	return sum
}

// What becomes of a request, 2: bodies of no, one and many extents, up to the greatest, and one byte more.
func TestBodies(t *testing.T) {
	c := alone(t)
	for i, n := range []int{0, 1, api.MaxExtent - 1, api.MaxExtent, api.MaxExtent + 1, 2 * api.MaxExtent, 5*api.MaxExtent + 7, api.MaxObject - 1, api.MaxObject} {
		key, body := fmt.Sprint("k", i), bytesOf(n)
		index := c.last(0) + 1
		tag := c.ask(0, puts(key, body))
		c.answered(0, tag, done(0, index, sumOf(body), ""))
		v, e := c.hosts[0].g.Machine().Get("one", key, 0)
		if e != api.OK || !slices.Equal(v.Pieces, pieceList(body)) || v.Size != n {
			t.Errorf("%d bytes: %v, %d pieces", n, e, len(v.Pieces))
		}
		tag = c.ask(0, reads(key, 0))
		c.answered(0, tag, done(0, index, sumOf(body), body))
	}
	if got := len(c.hosts[0].x.All()); got < 256 {
		t.Errorf("%d extents are kept", got)
	}
	// The same extent many times is one of the store, and many pieces.
	tag := c.ask(0, puts("same", rep("x", 3*api.MaxExtent)))
	c.answered(0, tag, done(0, c.last(0), sumOf(rep("x", 3*api.MaxExtent)), ""))
	tag = c.ask(0, reads("same", 0))
	c.answered(0, tag, done(0, c.last(0), sumOf(rep("x", 3*api.MaxExtent)), rep("x", 3*api.MaxExtent)))
	for _, w := range []api.Want{puts("long", rep("y", api.MaxObject+1)), {Kind: api.WantCmd, Cmd: api.Cmd{Kind: api.CmdPart, Bucket: "one", Key: "k", ID: 1, N: 1}, Body: rep("y", 2*api.MaxObject)}} {
		before, kept := c.last(0), len(c.hosts[0].x.All())
		tag := c.ask(0, w)
		c.answered(0, tag, failed(0, api.ErrLong))
		if c.last(0) != before || len(c.hosts[0].x.All()) != kept {
			t.Errorf("a body that is too long was kept or laid")
		}
	}
}

// What becomes of a request, 2 and 3: no room for an extent, or for the entry, changes nothing.
func TestNoRoom(t *testing.T) {
	c := alone(t)
	h := c.hosts[0]
	h.d.Room(h.d.Used() + 4200)
	before := c.last(0)
	tag := c.ask(0, puts("k", bytesOf(9000)))
	c.answered(0, tag, failed(0, api.ErrFull))
	if c.last(0) != before || c.hosts[0].n.Times() != 0 {
		t.Errorf("a command without room for its body was laid")
	}
	c.leads(0)
	// Its extents are there by now, but there is no room for the entry: the node stands up anew, and follows.
	h.d.Room(-1)
	h.x.Put(bytesOf(100))
	h.d.Room(h.d.Used() + 50)
	tag = c.ask(0, puts("k", bytesOf(100)))
	c.answered(0, tag, failed(0, api.ErrFull))
	if h.n.Times() != 1 || c.last(0) != before {
		t.Errorf("it stood up anew %d times, its last index is %d", h.n.Times(), c.last(0))
	}
	tag = c.ask(0, buckets())
	c.answered(0, tag, api.Reply{Code: api.ErrLeader, Leader: -1})
	h.d.Room(-1)
	c.ticks(12)
	c.leads(0)
	tag = c.ask(0, keys())
	c.answered(0, tag, done(0, 0, "", ""))
	for _, e := range c.log {
		if command, _ := commands.Decode(e.Data); command.Kind == api.CmdPut {
			t.Errorf("what was answered api.ErrFull is in the log")
		}
	}
}

// What becomes of a request, 2: a store whose disk is down.
func TestStoreDown(t *testing.T) {
	n, _ := parts(t, disk.New())
	d := disk.New()
	_, x := parts(t, d)
	g, e := gate.New(n, x)
	if e != api.OK {
		t.Fatalf("New: %v", e)
	}
	for range 10 {
		g.Tick(0)
	}
	g.Ask(makes("one"))
	g.Ask(puts("k", "hi"))
	g.Replies()
	d.Fail(0, 0)
	g.Ask(puts("k", "ho"))
	g.Ask(puts("k", "hi"))
	g.Ask(puts("k", ""))
	g.Ask(reads("k", 3))
	g.Ask(heads("k", 3))
	want := []api.Reply{failed(3, api.ErrDown), failed(4, api.ErrDown), done(5, 4, sumOf(""), ""), failed(6, api.ErrBusy), done(7, 3, sumOf("hi"), "")}
	if l := g.Replies(); !slices.Equal(l, want) {
		t.Errorf("without a store: %v", l)
	}
}

// Promise 21.2: a nil gate, and one that no call made.
func TestNil(t *testing.T) {
	for _, g := range []*gate.Gate{nil, {}} {
		if tag, e := g.Ask(buckets()); tag != 0 || e != api.ErrArg {
			t.Errorf("Ask: %d, %v", tag, e)
		}
		g.Tick(3)
		g.Step(api.Msg{Kind: api.MsgVote, From: 1, To: 0, Term: 1})
		g.Hear(fine()[0])
		if l, notes := g.Sent(); len(l)+len(notes)+len(g.Replies())+g.Jobs() != 0 {
			t.Errorf("a gate that is none tells something")
		}
		if g.Machine() != nil || g.Node() != nil {
			t.Errorf("a gate that is none has a machine, or a node")
		}
	}
}
