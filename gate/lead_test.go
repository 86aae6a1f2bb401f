package gate_test

import (
	"fmt"
	"slices"
	"testing"

	"stowage/api"
	commands "stowage/cmd"
	"stowage/extent"
	"stowage/gate"
)

// waiting is a cluster of three that the node 0 leads, with a job of each kind there that waits: for extents to be kept, for an index, for being sure to lead, for an extent to come; and their tags.
func waiting(t *testing.T) (*cluster, []int) {
	t.Helper()
	c := led(t, 3)
	c.putAt("k", "hi")
	c.ticks(3)
	c.loseExtent(0, extent.ID("hi"))
	c.drops = func(api.Note) bool { return true }
	fetching := c.ask(0, reads("k", 0))
	c.comes()
	storing := c.ask(0, puts("j", "ho"))
	c.comes()
	c.loses = func(api.Msg) bool { return true }
	index := c.ask(0, marks("i"))
	sure := c.ask(0, keys())
	c.comes()
	l := []int{fetching, storing, index, sure}
	for _, tag := range l {
		c.waits(0, tag)
	}
	return c, l
}

// What becomes of a request, 6: a leader that stops to lead while jobs wait for notes or messages, and while one waits for an index.
func TestLeadLost(t *testing.T) {
	c, l := waiting(t)
	c.raises(0)
	for i, tag := range l {
		if i == 2 {
			c.waits(0, tag)
		} else {
			c.answered(0, tag, failed(0, api.ErrBusy))
		}
	}
	// What comes later is too late.
	before := c.last(0)
	c.hears(0, kept(1, 0, "ho", true))
	c.hears(0, kept(2, 0, "ho", true))
	c.hears(0, fetched(1, 0, "hi", true))
	if c.last(0) != before || len(c.hosts[0].asked) != 1 {
		t.Errorf("something became of notes that came too late")
	}
	c.drops, c.loses = nil, nil
	c.ticks(40)
	c.leads(0)
	c.answered(0, l[2], done(0, before, "", "")) // the entry was in its log, and is agreed on in the end
}

// What becomes of a request, 6: a leader that hears nobody for long stops to lead by itself.
func TestLeadLostByItself(t *testing.T) {
	c, l := waiting(t)
	for range 30 {
		c.do(0, func(g *gate.Gate) { g.Tick(0) })
		c.comes()
		lost := c.hosts[0].n.Raft().Role() != api.Leader
		for i, tag := range l {
			if lost && i != 2 {
				c.answered(0, tag, failed(0, api.ErrBusy))
			} else {
				c.waits(0, tag)
			}
		}
	}
	if c.hosts[0].n.Raft().Role() == api.Leader {
		t.Errorf("it still leads")
	}
}

// What becomes of a request, 6: who leads again, in another term, does not go on with what was asked in the one that is over.
func TestLeadLostAndWon(t *testing.T) {
	c := led(t, 3)
	c.drops = func(api.Note) bool { return true }
	storing := c.ask(0, puts("j", "ho"))
	c.comes()
	c.raises(0)
	c.answered(0, storing, failed(0, api.ErrBusy))
	c.ticks(40)
	c.leads(0)
	before := c.last(0)
	c.hears(0, kept(1, 0, "ho", true))
	if c.last(0) != before {
		t.Errorf("a command that was answered was laid")
	}
}

// What becomes of a request, 6: Patience ticks, and one fewer, for a job of each kind.
func TestPatience(t *testing.T) {
	c := led(t, 3)
	c.putAt("k", "hi")
	c.ticks(3)
	c.loseExtent(0, extent.ID("hi"))
	c.drops = func(api.Note) bool { return true }
	first := []int{c.ask(0, reads("k", 0)), c.ask(0, puts("j", "ho"))}
	c.ticks(10)
	second := c.ask(0, puts("i", "later"))
	c.ticks(gate.Patience - 11)
	for _, tag := range append(first, second) {
		c.waits(0, tag)
	}
	c.ticks(1)
	for _, tag := range first {
		c.answered(0, tag, failed(0, api.ErrBusy))
	}
	c.leads(0)
	c.ticks(9)
	c.waits(0, second)
	c.ticks(1)
	c.answered(0, second, failed(0, api.ErrBusy))
	if gate.Patience != 60 || gate.Long != 24 {
		t.Errorf("Patience is %d, Long %d", gate.Patience, gate.Long)
	}

	// A job that waits for an index does so beyond the lead, but not beyond its ticks.
	c = led(t, 3)
	c.off[0] = true
	tag := c.ask(0, marks("k"))
	node := c.ask(0, adds(3))
	c.ticks(gate.Patience - 1)
	c.waits(0, tag)
	c.waits(0, node)
	c.ticks(1)
	c.answered(0, tag, failed(0, api.ErrBusy))
	c.answered(0, node, failed(0, api.ErrBusy))
}

// What becomes of a request, 6: a node that falls answers all that waits, in the order of the tags, and nothing of it later.
func TestFalls(t *testing.T) {
	calls := map[string]func(g *gate.Gate){
		"Tick": func(g *gate.Gate) { g.Tick(0) },
		"Step": func(g *gate.Gate) {
			g.Step(api.Msg{Kind: api.MsgAppended, From: 1, To: 0, Term: 1, Index: 5, Yes: true})
		},
		"Hear": func(g *gate.Gate) { g.Hear(kept(1, 0, "ho", true)) },
	}
	for what, call := range calls {
		c, l := waiting(t)
		g := c.hosts[0].g
		c.hosts[0].d.Fail(0, 0)
		call(g)
		var want []api.Reply
		for _, tag := range l {
			want = append(want, failed(tag, api.ErrBusy))
		}
		if got := g.Replies(); !slices.Equal(got, want) || g.Jobs() != 0 {
			t.Errorf("%s at a node that fell: %v", what, got)
		}
		g.Tick(0)
		if msgs, notes := g.Sent(); len(msgs)+len(notes)+len(g.Replies()) != 0 {
			t.Errorf("%s: a node that fell goes on", what)
		}
		// It stands up with what it had; what was not answered may have been, or not.
		c.drops, c.loses = nil, nil
		if e := c.start(0); e != api.OK {
			t.Fatalf("start: %v", e)
		}
		c.ticks(60)
		tag := c.ask(0, reads("k", 0))
		c.comes()
		if r := c.hosts[0].got[tag]; r.Code == api.ErrLeader {
			tag = c.ask(r.Leader, reads("k", 0))
			c.comes()
			c.answered(r.Leader, tag, done(0, 3, sumOf("hi"), "hi"))
		} else {
			c.answered(0, tag, done(0, 3, sumOf("hi"), "hi"))
		}
	}
}

// What becomes of a request, 2 and 3: the power fails at each change of the disk that a put makes: it is answered ErrDown, or OK, and nothing else; and what was answered OK is there again.
func TestFallsWhilePutting(t *testing.T) {
	body := bytesOf(5000)
	for at := range 20 {
		for _, torn := range []int{0, 100} {
			c := alone(t)
			h := c.hosts[0]
			h.d.Plan([]api.Fall{{At: h.d.Changes() + at, Keep: at % 3, Torn: torn}})
			tag := c.ask(0, puts("k", body))
			h.d.Plan(nil)
			r := h.got[tag]
			if down := h.d.Down(); down != (r.Code == api.ErrDown) || !down && r.Code != api.OK {
				t.Fatalf("a fall at the change %d: %s", at, short(r))
			}
			if r.Code == api.OK {
				c.fail(0)
			}
			if e := c.start(0); e != api.OK {
				t.Fatalf("a fall at the change %d: %v", at, e)
			}
			c.ticks(10)
			again := c.ask(0, reads("k", 0))
			switch r.Code {
			case api.OK:
				c.answered(0, again, done(0, 3, sumOf(body), body))
			default:
				// The entry may have been kept; then its extents were, ahead of it.
				if got := h.got[again]; got != failed(again, api.ErrKey) && got != done(again, 3, sumOf(body), body) {
					t.Fatalf("a fall at the change %d: %s", at, short(got))
				}
			}
		}
	}
}

// Promise 21.2: a log is cut at Long entries that were handed out, and not at one fewer; what it has is in the snapshot.
func TestCut(t *testing.T) {
	c := alone(t)
	h := c.hosts[0]
	for i := 3; i < gate.Long; i++ {
		c.ask(0, puts(fmt.Sprint("k", i), "hi"))
	}
	c.ticks(3)
	if b := h.n.Raft().Base(); b.Index != 0 || h.n.Raft().Commit() != gate.Long-1 {
		t.Fatalf("%d entries: the base is %d", h.n.Raft().Commit(), b.Index)
	}
	c.ask(0, puts("last", "hi"))
	c.comes()
	if b := h.n.Raft().Base(); b.Index != 0 {
		t.Fatalf("it is cut without a tick")
	}
	c.ticks(1)
	b := h.n.Raft().Base()
	if b.Index != gate.Long || b.Data != h.g.Machine().Save() || !slices.Equal(b.Members, []int{0}) {
		t.Fatalf("%d entries: the base is %d", h.n.Raft().Commit(), b.Index)
	}
	// So it is again, counted from the base.
	for i := range gate.Long - 1 {
		c.ask(0, puts(fmt.Sprint("k", i), "ho"))
	}
	c.ticks(2)
	if b := h.n.Raft().Base(); b.Index != gate.Long {
		t.Fatalf("the base is %d", b.Index)
	}
	c.ask(0, marks("last"))
	c.ask(0, marks("last"))
	c.ticks(1)
	if b := h.n.Raft().Base(); b.Index != 2*gate.Long+1 || b.Data != h.g.Machine().Save() {
		t.Fatalf("the base is %d", b.Index)
	}
	c.fail(0)
	c.start(0)
	if m := c.hosts[0].g.Machine(); m.Save() != c.end.Save() || m.Index() != 2*gate.Long+1 {
		t.Errorf("behind a loss of power the machine is another one")
	}
}

// Promise 21.2: a cut goes up to the last entry that was handed out, at each node, and leaves what was not.
func TestCutOfSome(t *testing.T) {
	c := led(t, 3)
	for range 30 {
		c.ask(0, marks("k"))
		c.comes()
	}
	c.loses = func(m api.Msg) bool { return m.To == 0 }
	var l []int
	for range 40 {
		l = append(l, c.ask(0, marks("j")))
	}
	commit := c.hosts[0].n.Raft().Commit()
	c.do(0, func(g *gate.Gate) { g.Tick(0) })
	if b := c.hosts[0].n.Raft().Base(); b.Index != commit || c.last(0) != commit+40 {
		t.Errorf("the base is %d, not %d; the last index %d", b.Index, commit, c.last(0))
	}
	c.do(2, func(g *gate.Gate) { g.Tick(2) })
	if b := c.hosts[2].n.Raft().Base(); b.Index == 0 || b.Index != c.hosts[2].n.Raft().Commit() {
		t.Errorf("the base of another one is %d", b.Index)
	}
	c.loses = nil
	c.ticks(10)
	for i, tag := range l {
		r := c.hosts[0].got[tag]
		if i < 32 && r != done(tag, commit+1+i, "", "") || i >= 32 && r != failed(tag, api.ErrMany) {
			t.Fatalf("the %dth behind: %s", i, short(r))
		}
	}
}

// longKeys marks keys of a thousand bytes until the machine's text has just so many bytes.
func longKeys(c *cluster, size int) {
	c.t.Helper()
	for i := 0; ; i++ {
		had := len(c.end.Save())
		key := fmt.Sprintf("%04d", i) + rep("k", 996)
		c.ask(0, marks(key))
		grew := len(c.end.Save()) - had
		if left := size - len(c.end.Save()); left < 2*grew {
			// One more, or two, of the lengths that are left.
			rest := left - 2*(grew-len(key))
			c.ask(0, marks(fmt.Sprintf("y%0*d", rest/2-1, 0)))
			c.ask(0, marks(fmt.Sprintf("z%0*d", rest-rest/2-1, 0)))
			break
		}
	}
	if got := len(c.end.Save()); got != size {
		c.t.Fatalf("the machine's text has %d bytes, not %d", got, size)
	}
}

// Promise 21.2: a machine whose text is too long for a snapshot is not cut; one that is just so long is.
func TestCutTooLong(t *testing.T) {
	c := alone(t)
	longKeys(c, api.MaxShot)
	c.ticks(1)
	if b := c.hosts[0].n.Raft().Base(); b.Index != c.last(0) || len(b.Data) != api.MaxShot {
		t.Errorf("a text of api.MaxShot bytes: the base is %d", b.Index)
	}
	c = alone(t)
	longKeys(c, api.MaxShot+1)
	c.ticks(3)
	if b := c.hosts[0].n.Raft().Base(); b.Index != 0 || c.hosts[0].n.Times() != 0 {
		t.Errorf("a text of one byte more: the base is %d", b.Index)
	}
	c.leads(0)
	tag := c.ask(0, marks("k"))
	c.answered(0, tag, done(0, c.last(0), "", ""))
	// It is cut when it is shorter again.
	l, _ := c.hosts[0].g.Machine().Chain("one", fmt.Sprintf("%04d", 0)+rep("k", 996))
	tag = c.ask(0, cmd(api.Cmd{Kind: api.CmdErase, Bucket: "one", Key: fmt.Sprintf("%04d", 0) + rep("k", 996), ID: l[0].ID}))
	c.answered(0, tag, done(0, l[0].ID, "", ""))
	c.ticks(1)
	if b := c.hosts[0].n.Raft().Base(); b.Index != c.last(0) {
		t.Errorf("the base is %d", b.Index)
	}
}

// Promise 21.2: a cut for which there is no room leaves a node that stands up anew, and goes on when there is.
func TestCutWithoutRoom(t *testing.T) {
	c := alone(t)
	h := c.hosts[0]
	for i := range 30 {
		c.ask(0, puts(fmt.Sprint("k", i), "hi"))
	}
	text := h.g.Machine().Save()
	h.d.Room(h.d.Used())
	c.ticks(1)
	if h.n.Times() != 1 || h.n.Raft().Role() == api.Leader || h.n.Raft().Base().Index != 0 {
		t.Fatalf("it stood up anew %d times, the base is %d", h.n.Times(), h.n.Raft().Base().Index)
	}
	h.d.Room(-1)
	c.ticks(15)
	c.leads(0)
	if h.g.Machine().Index() == 0 || h.g.Machine().Save() != text || h.n.Raft().Base().Index == 0 {
		t.Errorf("it does not go on: the base is %d", h.n.Raft().Base().Index)
	}
}

// What becomes of a request, 4 and 6: a node that stands up anew for want of room begins with its snapshot; what waits for an index waits on, the rest is over.
func TestStandsAnew(t *testing.T) {
	c := led(t, 3)
	c.putAt("k", "hi")
	c.loses = func(m api.Msg) bool { return m.To == 0 }
	index := c.ask(0, marks("i"))
	sure := c.ask(0, keys())
	c.drops = func(api.Note) bool { return true }
	storing := c.ask(0, puts("j", bytesOf(100)))
	c.comes()
	at := c.last(0)
	h := c.hosts[0]
	h.d.Room(h.d.Used() + 20)
	full := c.ask(0, marks(rep("k", 1000)))
	c.answered(0, full, failed(0, api.ErrFull))
	c.answered(0, sure, failed(0, api.ErrBusy))
	c.answered(0, storing, failed(0, api.ErrBusy))
	c.waits(0, index)
	if h.n.Times() != 1 || h.g.Machine().Index() != 0 {
		t.Errorf("it stood up anew %d times, the machine is at %d", h.n.Times(), h.g.Machine().Index())
	}
	h.d.Room(-1)
	c.loses, c.drops = nil, nil
	c.ticks(40)
	c.answered(0, index, done(0, at, "", ""))
	for _, e := range c.log {
		if command, _ := commands.Decode(e.Data); command.Key == rep("k", 1000) {
			t.Errorf("what was answered api.ErrFull is in the log")
		}
	}
}

// Promise 21.6: requests at the node that leads are answered, when messages and notes come, within few ticks, by another code than ErrBusy.
func TestGoesOn(t *testing.T) {
	for _, n := range []int{1, 2, 3, 5, 7} {
		c := led(t, n)
		for round := range 3 {
			var l []int
			key := fmt.Sprint("k", round)
			for _, w := range []api.Want{makes(fmt.Sprint("two", round)), puts(key, bytesOf(9000)), reads(key, 0), marks("m"), keys(), buckets(), adds(0), puts("e", "")} {
				l = append(l, c.ask(0, w))
			}
			c.ticks(3)
			for _, tag := range l {
				if r, is := c.hosts[0].got[tag]; !is || r.Code == api.ErrBusy || r.Code == api.ErrLeader {
					t.Errorf("%d nodes: %d: %v, %s", n, tag, is, short(r))
				}
			}
			tag := c.ask(0, reads(key, 0))
			c.ticks(1)
			if r := c.hosts[0].got[tag]; r.Body != bytesOf(9000) {
				t.Errorf("%d nodes: %s", n, short(r))
			}
		}
	}
}
