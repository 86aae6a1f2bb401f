package gate_test

import (
	"slices"
	"testing"

	"stowage/api"
	"stowage/disk"
	"stowage/extent"
	"stowage/gate"
)

// fetched is a note that brings an extent, or says that it is not there.
func fetched(from, to int, body string, yes bool) api.Note {
	n := api.Note{Kind: api.NoteFetched, From: from, To: to, ID: extent.ID(body), Yes: yes}
	if yes {
		n.Data = body
	}
	return n
}

// putAt puts an object at a cluster that the node 0 leads, and tells its index.
func (c *cluster) putAt(key, body string) int {
	c.t.Helper()
	tag := c.ask(0, puts(key, body))
	c.comes()
	r := c.hosts[0].got[tag]
	if r.Code != api.OK || r.ID == 0 {
		c.t.Fatalf("put %s: %s", key, short(r))
	}
	return r.ID
}

// What becomes of a request, 5: a reading is answered as soon as a majority has said that the node leads, and no sooner.
func TestReadIsSure(t *testing.T) {
	c := led(t, 5)
	for _, w := range []api.Want{buckets(), keys(), reads("none", 0), heads("none", 0), {Kind: api.WantUploads, Bucket: "one"}, {Kind: api.WantParts, Bucket: "one", Key: "k", ID: 1}} {
		tag := c.ask(0, w)
		if len(c.msgs) != 4 {
			t.Fatalf("%s: %d messages", short(w), len(c.msgs))
		}
		asked := c.msgs
		c.msgs = nil
		c.waits(0, tag)
		for i, m := range asked[:2] {
			c.waits(0, tag)
			c.do(m.To, func(g *gate.Gate) { g.Step(m) })
			answer := c.msgs
			c.msgs = nil
			c.do(0, func(g *gate.Gate) { g.Step(answer[0]) })
			c.do(0, func(g *gate.Gate) { g.Step(answer[0]) }) // twice
			c.msgs = nil
			if i == 0 {
				c.waits(0, tag)
			}
		}
		if r, is := c.hosts[0].got[tag]; !is || r.Code == api.ErrBusy {
			t.Errorf("%s: %v, %s", short(w), is, short(r))
		}
	}
}

// Promise 21.3: a node that led, and does not know that another one does, answers no reading.
func TestReadBehindAChange(t *testing.T) {
	c := led(t, 3)
	old := c.putAt("k", "old")
	c.off[0] = true
	c.ticks(16)
	c.leads(0)
	c.leads(1)
	tag := c.ask(1, puts("k", "new"))
	c.comes()
	c.answered(1, tag, done(0, c.last(1), sumOf("new"), ""))
	var l []int
	for _, w := range []api.Want{reads("k", 0), reads("k", old), keys(), buckets(), heads("k", 0)} {
		l = append(l, c.ask(0, w))
	}
	c.ticks(1)
	for _, tag := range l {
		c.waits(0, tag)
	}
	c.off[0] = false
	c.ticks(3)
	for _, tag := range l {
		c.answered(0, tag, failed(0, api.ErrBusy))
	}
	tag = c.ask(1, reads("k", 0))
	c.comes()
	c.answered(1, tag, done(0, c.hosts[1].got[tag].ID, sumOf("new"), "new"))
	tag = c.ask(1, reads("k", old))
	c.comes()
	c.answered(1, tag, done(0, old, sumOf("old"), "old"))
}

// Promise 21.3: a reading that is asked for behind a change, in one go with it, is answered behind it, if one message brings both.
func TestReadWithAChange(t *testing.T) {
	c := led(t, 3)
	put := c.ask(0, puts("k", ""))
	read := c.ask(0, reads("k", 0))
	c.comes()
	if l := c.hosts[0].order; !slices.Equal(l[len(l)-2:], []int{put, read}) {
		t.Errorf("answered in the order %v", l)
	}
	index := c.last(0)
	c.answered(0, put, done(0, index, sumOf(""), ""))
	c.answered(0, read, done(0, index, sumOf(""), ""))
}

// What becomes of a request, 5: extents that the node lacks, or that are not right, come from others, and are kept.
func TestFetch(t *testing.T) {
	c := led(t, 3)
	body := bytesOf(3*api.MaxExtent + 5)
	cut := extent.Cut(body)
	index := c.putAt("k", body)
	c.ticks(3)
	c.loseExtent(0, extent.ID(cut[1]))
	c.spoilExtent(0, extent.ID(cut[3]))
	c.loseExtent(1, extent.ID(cut[1])) // the node 2 alone has it
	tag := c.ask(0, reads("k", 0))
	head := c.ask(0, heads("k", 0))
	for len(c.msgs) > 0 {
		c.stepNext()
	}
	c.waits(0, tag)
	c.answered(0, head, done(0, index, sumOf(body), ""))
	want := []api.Note{
		{Kind: api.NoteFetch, From: 0, To: 1, ID: extent.ID(cut[1])}, {Kind: api.NoteFetch, From: 0, To: 2, ID: extent.ID(cut[1])},
		{Kind: api.NoteFetch, From: 0, To: 1, ID: extent.ID(cut[3])}, {Kind: api.NoteFetch, From: 0, To: 2, ID: extent.ID(cut[3])},
	}
	if !slices.Equal(c.notes, want) {
		t.Fatalf("asked for %v", c.notes)
	}
	c.comes()
	c.answered(0, tag, done(0, index, sumOf(body), body))
	for _, s := range cut {
		if !c.hosts[0].x.Has(extent.ID(s)) {
			t.Errorf("what came is not kept")
		}
	}
	tag = c.ask(0, reads("k", index))
	for len(c.msgs) > 0 {
		c.stepNext()
	}
	c.answered(0, tag, done(0, index, sumOf(body), body))
	if len(c.notes) != 0 {
		t.Errorf("asked for what is there: %v", c.notes)
	}
}

// lacking is a cluster of three whose node 0 lacks the extent of k, and a reading of that, which waits for notes.
func lacking(t *testing.T, body string) (*cluster, int, int) {
	t.Helper()
	c := led(t, 3)
	index := c.putAt("k", body)
	c.ticks(3)
	c.loseExtent(0, extent.ID(extent.Cut(body)[0]))
	c.drops = func(api.Note) bool { return true }
	tag := c.ask(0, reads("k", 0))
	c.comes()
	c.waits(0, tag)
	return c, tag, index
}

// What becomes of a request, 5: what the notes of others bring.
func TestFetched(t *testing.T) {
	c, tag, index := lacking(t, "hi")
	for _, n := range []api.Note{
		fetched(1, 0, "hi", false), fetched(1, 0, "hi", false), // one node does not have it, and says so twice
		fetched(2, 0, "other", false), fetched(2, 0, "other", true), // another extent
		fetched(2, 1, "hi", true), fetched(2, 1, "hi", false), // to another node
		fetched(5, 0, "hi", false), // no member
		{Kind: api.NoteFetched, From: 2, To: 0, ID: extent.ID("hi"), Yes: true, Data: "ho"}, // other bytes
		{Kind: api.NoteFetched, From: 2, To: 0, ID: extent.ID("hi"), Yes: true},             // no bytes
		{Kind: api.NoteFetched, From: 2, To: 0, ID: extent.ID("hi"), Data: "hi"},            // bytes, but No
		{Kind: api.NoteFetched, From: 0, To: 0, ID: extent.ID("hi"), Yes: true, Data: "hi"}, // of itself
		{Kind: api.NoteStored, From: 2, To: 0, ID: extent.ID("hi")}, kept(2, 0, "hi", true), // told otherwise
	} {
		c.hears(0, n)
		c.waits(0, tag)
		if c.hosts[0].x.Has(extent.ID("hi")) {
			t.Fatalf("kept behind %s", short(n))
		}
	}
	c.hears(0, fetched(2, 0, "hi", true))
	c.answered(0, tag, done(0, index, sumOf("hi"), "hi"))
	c.hears(0, fetched(2, 0, "hi", true))
	c.hears(0, fetched(2, 0, "hi", false))
	c.hears(0, fetched(1, 0, "hi", true))
	if s, e := c.hosts[0].x.Get(extent.ID("hi")); s != "hi" || e != api.OK {
		t.Errorf("the extent is %q, %v", s, e)
	}
}

// What becomes of a request, 5, and 21.4: an extent that nobody has, told by all others exactly.
func TestFetchedByNobody(t *testing.T) {
	c, tag, index := lacking(t, "hi")
	c.hears(0, fetched(2, 0, "hi", false))
	c.waits(0, tag)
	c.hears(0, fetched(1, 0, "hi", false))
	c.answered(0, tag, failed(0, api.ErrBusy))

	// The same by the nodes themselves, and that it is there when one has it again.
	c.drops = nil
	c.loseExtent(1, extent.ID("hi"))
	c.spoilExtent(2, extent.ID("hi"))
	tag = c.ask(0, reads("k", 0))
	c.comes()
	c.answered(0, tag, failed(0, api.ErrBusy))
	c.hosts[2].x.Put("hi")
	tag = c.ask(0, reads("k", 0))
	c.comes()
	c.answered(0, tag, done(0, index, sumOf("hi"), "hi"))

	// A node alone has nobody to ask.
	c = alone(t)
	c.putAt("k", "hi")
	c.spoilExtent(0, extent.ID("hi"))
	tag = c.ask(0, reads("k", 0))
	c.answered(0, tag, failed(0, api.ErrBusy))
	tag = c.ask(0, heads("k", 0))
	c.answered(0, tag, done(0, 3, sumOf("hi"), ""))
}

// What becomes of a request, 5: of several extents one that nobody has is enough.
func TestFetchedInPart(t *testing.T) {
	c := led(t, 3)
	body := bytesOf(2 * api.MaxExtent)
	cut := extent.Cut(body)
	c.putAt("k", body)
	c.ticks(3)
	for _, s := range cut {
		c.loseExtent(0, extent.ID(s))
	}
	c.loseExtent(1, extent.ID(cut[1]))
	c.loseExtent(2, extent.ID(cut[1]))
	tag := c.ask(0, reads("k", 0))
	c.comes()
	c.answered(0, tag, failed(0, api.ErrBusy))
	if !c.hosts[0].x.Has(extent.ID(cut[0])) {
		t.Errorf("what came is not kept")
	}
}

// What becomes of a request, 5: an extent that stands in an object many times comes once; several readings of it are answered by one note.
func TestFetchOfTheSame(t *testing.T) {
	body := rep("x", 2*api.MaxExtent) + "end"
	c, tag, index := lacking(t, body)
	other := c.ask(0, reads("k", index))
	c.drops = nil
	for len(c.msgs) > 0 {
		c.stepNext()
	}
	if l := c.under(api.NoteFetch); len(l) != 2 {
		t.Errorf("asked for %v", l)
	}
	c.notes = nil
	c.hears(0, fetched(1, 0, rep("x", api.MaxExtent), true))
	c.answered(0, tag, done(0, index, sumOf(body), body))
	c.answered(0, other, done(0, index, sumOf(body), body))

	// Also where what came is the whole of both answers.
	c, tag, index = lacking(t, bytesOf(100))
	other = c.ask(0, reads("k", index))
	c.comes()
	note := fetched(1, 0, bytesOf(100), true)
	c.hears(0, note)
	c.answered(0, tag, done(0, index, sumOf(bytesOf(100)), bytesOf(100)))
	c.answered(0, other, done(0, index, sumOf(bytesOf(100)), bytesOf(100)))
	apart(t, note, c.hosts[0].got[tag], c.hosts[0].got[other])
}

// What becomes of a request, 5: an extent that comes to the store by another way is there, too.
func TestFetchedOtherwise(t *testing.T) {
	c, tag, index := lacking(t, "hi")
	c.hears(0, api.Note{Kind: api.NoteStore, From: 1, To: 0, ID: extent.ID("hi"), Data: "hi"})
	c.answered(0, tag, done(0, index, sumOf("hi"), "hi"))
	c, tag, index = lacking(t, "hi")
	c.ask(0, puts("other", "hi"))
	c.answered(0, tag, done(0, index, sumOf("hi"), "hi"))
	c, tag, index = lacking(t, "hi")
	c.hears(0, fetched(6, 0, "hi", true)) // whose it is does not matter: its id says what it is
	c.answered(0, tag, done(0, index, sumOf("hi"), "hi"))
}

// What becomes of a request, 5: the answer is that of the point at which the machine was asked, also when the version goes meanwhile.
func TestFetchedBehindErase(t *testing.T) {
	c, tag, index := lacking(t, "hi")
	erase := c.ask(0, cmd(api.Cmd{Kind: api.CmdErase, Bucket: "one", Key: "k", ID: index}))
	c.comes()
	c.answered(0, erase, done(0, index, "", ""))
	c.waits(0, tag)
	c.hears(0, fetched(1, 0, "hi", true))
	c.answered(0, tag, done(0, index, sumOf("hi"), "hi"))
}

// What becomes of a request, 5: what comes and has no room is not there.
func TestFetchedWithoutRoom(t *testing.T) {
	c, tag, index := lacking(t, bytesOf(1000))
	h := c.hosts[0]
	h.d.Room(h.d.Used())
	c.hears(0, fetched(1, 0, bytesOf(1000), true))
	c.waits(0, tag)
	h.d.Room(-1)
	c.hears(0, fetched(1, 0, bytesOf(1000), true))
	c.answered(0, tag, done(0, index, sumOf(bytesOf(1000)), bytesOf(1000)))
}

// Notes: what a node answers to those that ask.
func TestNotesAreAnswered(t *testing.T) {
	c := led(t, 3)
	for _, i := range []int{0, 1} { // one that leads, and one that does not
		h := c.hosts[i]
		answer := func(n api.Note, want api.Note) {
			t.Helper()
			c.notes = nil
			c.hears(i, n)
			if !slices.Equal(c.notes, []api.Note{want}) || !gate.Check(want) {
				t.Errorf("%s is answered by %v", short(n), c.notes)
			}
			c.notes = nil
		}
		from := 2
		store := api.Note{Kind: api.NoteStore, From: from, To: i, ID: extent.ID("ab"), Data: "ab"}
		fetch := api.Note{Kind: api.NoteFetch, From: from, To: i, ID: extent.ID("ab")}
		answer(fetch, fetched(i, from, "ab", false))
		answer(store, kept(i, from, "ab", true))
		answer(store, kept(i, from, "ab", true))
		if s, e := h.x.Get(extent.ID("ab")); s != "ab" || e != api.OK || h.d.Waits() != 0 {
			t.Errorf("the extent is %q, %v, %d changes wait", s, e, h.d.Waits())
		}
		answer(fetch, fetched(i, from, "ab", true))
		c.spoilExtent(i, extent.ID("ab"))
		answer(fetch, fetched(i, from, "ab", false))
		answer(store, kept(i, from, "ab", true)) // and is right again
		answer(fetch, fetched(i, from, "ab", true))
		h.d.Room(h.d.Used())
		full := api.Note{Kind: api.NoteStore, From: 6, To: i, ID: extent.ID("cd"), Data: "cd"}
		answer(full, kept(i, 6, "cd", false))
		answer(store, kept(i, from, "ab", true)) // it needs no room
		h.d.Room(-1)
		answer(full, kept(i, 6, "cd", true)) // whoever asks, member or not
	}
}

// Notes: a node that is down answers nothing, also one that falls by the note.
func TestNotesToOneThatIsDown(t *testing.T) {
	c := led(t, 3)
	h := c.hosts[1]
	g := h.g
	g.Hear(api.Note{Kind: api.NoteStore, From: 2, To: 1, ID: extent.ID("ab"), Data: "ab"})
	g.Sent()
	h.d.Plan([]api.Fall{{At: h.d.Changes() + 1}})
	g.Hear(api.Note{Kind: api.NoteStore, From: 2, To: 1, ID: extent.ID("cd"), Data: "cd"})
	if _, notes := g.Sent(); len(notes) != 0 || !h.d.Down() {
		t.Errorf("a node that falls answers %v", notes)
	}
	for _, n := range []api.Note{{Kind: api.NoteStore, From: 2, To: 1, ID: extent.ID("ab"), Data: "ab"}, {Kind: api.NoteFetch, From: 2, To: 1, ID: extent.ID("ab")}, fetched(2, 1, "ab", true), kept(2, 1, "ab", true)} {
		g.Hear(n)
		if _, notes := g.Sent(); len(notes) != 0 {
			t.Errorf("a node that is down answers %v", notes)
		}
	}
	// So does one whose store is on another disk, which is up.
	d := disk.New()
	n, _ := parts(t, d)
	_, x := parts(t, disk.New())
	g, _ = gate.New(n, x)
	d.Fail(0, 0)
	g.Hear(api.Note{Kind: api.NoteStore, From: 2, To: 0, ID: extent.ID("ab"), Data: "ab"})
	g.Hear(fetched(2, 0, "cd", true))
	if _, notes := g.Sent(); len(notes) != 0 || len(x.All()) != 0 {
		t.Errorf("a node that is down answers %v, and keeps %q", notes, x.All())
	}
}

// Promise 21.2: notes and messages that may not be, or are to others, are passed over.
func TestPassesOver(t *testing.T) {
	c := led(t, 3)
	storing := c.ask(0, puts("k", "hi"))
	c.notes, c.msgs = nil, nil
	h := c.hosts[0]
	files, last, commit, machine := h.d.Changes(), c.last(0), h.n.Raft().Commit(), h.g.Machine().Save()
	same := func(what any) {
		t.Helper()
		c.waits(0, storing)
		if h.d.Changes() != files || c.last(0) != last || h.n.Raft().Commit() != commit || h.g.Machine().Save() != machine || len(c.msgs)+len(c.notes) != 0 || c.term(0) != 1 {
			t.Fatalf("something became of %s", short(what))
		}
	}
	for _, n := range []api.Note{
		{}, {Kind: api.NoteStore, From: 1, To: 2, ID: extent.ID("ab"), Data: "ab"}, {Kind: api.NoteStore, From: 1, To: 0, ID: extent.ID("ab"), Data: "abc"}, {Kind: api.NoteStore, From: 1, To: 0, ID: "x", Data: "ab"},
		{Kind: api.NoteStore, From: 0, To: 0, ID: extent.ID("ab"), Data: "ab"}, {Kind: api.NoteStore, From: 7, To: 0, ID: extent.ID("ab"), Data: "ab"}, {Kind: api.NoteStore, From: -1, To: 0, ID: extent.ID("ab"), Data: "ab"},
		{Kind: api.NoteStore, From: 1, To: 0, ID: extent.ID("ab"), Data: "ab", Yes: true}, {Kind: 5, From: 1, To: 0, ID: extent.ID("ab"), Data: "ab"}, {Kind: 0, From: 1, To: 0, ID: extent.ID("ab")},
		{Kind: api.NoteFetch, From: 1, To: 2, ID: extent.ID("hi")}, {Kind: api.NoteFetch, From: 1, To: 0, ID: "hi"}, {Kind: api.NoteFetch, From: 0, To: 0, ID: extent.ID("hi")}, {Kind: api.NoteFetch, From: 1, To: 0, ID: extent.ID("hi"), Data: "hi"},
		{Kind: api.NoteFetch, From: 1, To: 0, ID: extent.ID("hi"), Yes: true}, {Kind: api.NoteStored, From: 1, To: 0, ID: "hi", Yes: true}, {Kind: api.NoteStored, From: 1, To: 2, ID: extent.ID("hi"), Yes: true},
		{Kind: api.NoteStored, From: 8, To: 0, ID: extent.ID("hi"), Yes: true}, {Kind: api.NoteStored, From: 1, To: 0, ID: extent.ID("hi"), Yes: true, Data: "hi"},
	} {
		c.hears(0, n)
		same(n)
	}
	for _, m := range []api.Msg{
		{}, {Kind: api.MsgVote, From: 1, To: 2, Term: 9}, {Kind: api.MsgVoted, From: 1, To: 1, Term: 9}, {Kind: api.MsgAppended, From: 1, To: 0, Term: -1}, {Kind: 7, From: 1, To: 0, Term: 9}, {Kind: api.MsgAppend, From: 0, To: 0, Term: 9},
		{Kind: api.MsgAppend, From: 1, To: 0, Term: 9, LogTerm: 10}, {Kind: api.MsgShot, From: 9, To: 0, Term: 9, Index: 50, LogTerm: 1}, {Kind: api.MsgAppended, From: 1, To: 2, Term: 1, Index: 50, Yes: true},
	} {
		c.do(0, func(g *gate.Gate) { g.Step(m) })
		same(m)
	}
	c.hears(0, kept(1, 0, "hi", true))
	if c.last(0) != last+1 {
		t.Errorf("what may be was passed over, too")
	}
}
