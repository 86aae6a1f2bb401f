package gate_test

import (
	"fmt"
	"math/rand"
	"runtime"
	"slices"
	"strings"
	"testing"

	"stowage/api"
	"stowage/extent"
	"stowage/gate"
	"stowage/route"
)

// counts are how often things happened.
type counts struct {
	fell, full, took, fetched, damaged, changes int
	codes                                       map[api.Errno]int
}

// run is a cluster to which drawn things happen.
type run struct {
	*cluster
	r     *rand.Rand
	asked int
	n     *counts
}

// one tells whether one of so many cases is drawn.
func (u *run) one(of int) bool { return u.r.Intn(of) == 0 }

// key is a drawn key.
func (u *run) key() string { return fmt.Sprint("k", u.r.Intn(4)) }

// want is a drawn want; the body of each put is another one.
func (u *run) want() api.Want {
	u.asked++
	key := u.key()
	id := 1 + u.r.Intn(len(u.log)+2)
	if l, _ := u.end.Chain("one", key); len(l) > 0 && !u.one(4) {
		id = l[u.r.Intn(len(l))].ID
	}
	body := fmt.Sprint(u.asked, " ") + rep("x", u.r.Intn(3)*u.r.Intn(5000))
	put := puts(key, body)
	if u.one(3) {
		put = withToken(put, fmt.Sprint("t", u.asked))
	}
	switch u.r.Intn(20) {
	case 0:
		return makes([]string{"one", "two"}[u.r.Intn(2)])
	case 1:
		return cmd(api.Cmd{Kind: api.CmdDrop, Bucket: []string{"one", "two"}[u.r.Intn(2)]})
	case 2, 3:
		return withToken(marks(key), fmt.Sprint("t", u.r.Intn(9)))
	case 4:
		return cmd(api.Cmd{Kind: api.CmdErase, Bucket: "one", Key: key, ID: id})
	case 5:
		return cmd(api.Cmd{Kind: api.CmdExpire, ID: len(u.log)})
	case 6:
		return cmd(api.Cmd{Kind: api.CmdBegin, Bucket: "one", Key: key})
	case 7:
		if l, _ := u.end.Uploads("one"); len(l) > 0 {
			id, key = l[0].ID, l[0].Key
		}
		return api.Want{Kind: api.WantCmd, Cmd: api.Cmd{Kind: api.CmdPart, Bucket: "one", Key: key, ID: id, N: 1 + u.r.Intn(3)}, Body: body}
	case 8:
		return keys()
	case 9:
		return reads(key, id)
	case 10:
		return heads(key, 0)
	case 11, 12, 13:
		return reads(key, 0)
	case 14:
		if u.one(2) {
			return adds(u.r.Intn(len(u.hosts)))
		}
		return drops(u.r.Intn(len(u.hosts)))
	}
	return put
}

// whom is a node to ask: most often one that leads.
func (u *run) whom() int {
	for range 4 {
		i := u.r.Intn(len(u.hosts))
		if h := u.hosts[i]; h.g != nil && h.n.Raft().Role() == api.Leader {
			return i
		}
	}
	return u.r.Intn(len(u.hosts))
}

// way lets something that is under way come, get lost, or come and stay.
func (u *run) way() {
	if len(u.msgs) > 0 {
		i := u.r.Intn(min(len(u.msgs), 12))
		m := u.msgs[i]
		if !u.one(20) {
			u.msgs = slices.Delete(u.msgs, i, i+1)
		}
		if !u.one(15) && !u.off[m.From] && !u.off[m.To] && m.To < len(u.hosts) {
			u.do(m.To, func(g *gate.Gate) { g.Step(m) })
		}
	}
	if len(u.notes) > 0 {
		i := u.r.Intn(min(len(u.notes), 12))
		n := u.notes[i]
		if !u.one(20) {
			u.notes = slices.Delete(u.notes, i, i+1)
		}
		if !u.one(15) && !u.off[n.From] && !u.off[n.To] && n.To < len(u.hosts) {
			u.do(n.To, func(g *gate.Gate) { g.Hear(n) })
			if n.Kind == api.NoteFetched && n.Yes {
				u.n.fetched++
			}
		}
	}
}

// trouble lets the power fail, room be short, nodes be cut off, extents be lost.
func (u *run) trouble() {
	i := u.r.Intn(len(u.hosts))
	h := u.hosts[i]
	switch u.r.Intn(8) {
	case 0:
		h.d.Fail(u.r.Intn(4), u.r.Intn(200))
		h.g = nil
		u.n.fell++
	case 1:
		h.d.Plan([]api.Fall{{At: h.d.Changes() + u.r.Intn(30), Keep: u.r.Intn(4), Torn: u.r.Intn(200)}})
	case 2:
		h.d.Room(h.d.Used() + u.r.Intn(6000))
	case 3, 4:
		h.d.Room(-1)
		u.off = map[int]bool{}
	case 5:
		u.off[i] = u.one(2)
	case 6:
		if h.g == nil {
			return
		}
		for _, id := range h.x.All() {
			if u.one(2) {
				h.d.Write("e."+id, "?")
				u.n.damaged++
			}
		}
		h.d.Sync()
	}
}

// step lets something happen.
func (u *run) step() {
	u.t.Helper()
	for i, h := range u.hosts {
		if h.g == nil && u.one(30) {
			h.d.Plan(nil)
			h.d.Room(-1)
			if e := u.start(i); e != api.OK {
				u.t.Fatalf("the node %d does not stand up: %v", i, e)
			}
			u.look(i)
		}
	}
	switch k := u.r.Intn(40); {
	case k < 6:
		i := u.r.Intn(len(u.hosts))
		u.do(i, func(g *gate.Gate) { g.Tick(u.r.Intn(1000) - 500) })
	case k < 9:
		u.ask(u.whom(), u.want())
	case k == 9 && u.one(4):
		u.trouble()
	default:
		u.way()
	}
	if len(u.msgs) > 200 {
		u.msgs = u.msgs[100:]
	}
	if len(u.notes) > 200 {
		u.notes = u.notes[100:]
	}
}

// heals lets all be well for as long as it takes, and asks that requests are answered then.
func (u *run) heals() {
	u.t.Helper()
	u.off = map[int]bool{}
	for i, h := range u.hosts {
		h.d.Plan(nil)
		h.d.Room(-1)
		if h.g == nil {
			if e := u.start(i); e != api.OK {
				u.t.Fatalf("the node %d does not stand up: %v", i, e)
			}
		}
	}
	u.ticks(120)
	leader := -1
	for i, h := range u.hosts {
		if h.n.Raft().Role() == api.Leader && (leader < 0 || u.term(i) > u.term(leader)) {
			leader = i
		}
		if h.g.Jobs() != 0 {
			u.t.Errorf("the node %d has %d jobs", i, h.g.Jobs())
		}
	}
	if leader < 0 {
		u.t.Fatalf("nobody leads")
	}
	body := fmt.Sprint("last ", bytesOf(5000))
	for _, w := range []api.Want{makes("end"), {Kind: api.WantCmd, Cmd: api.Cmd{Kind: api.CmdPut, Bucket: "end", Key: "k"}, Body: body}} {
		tag := u.ask(leader, w)
		u.ticks(3)
		if r := u.hosts[leader].got[tag]; r.Code != api.OK {
			u.t.Fatalf("in the end: %s: %s", short(w), short(r))
		}
	}
	tag := u.ask(leader, api.Want{Kind: api.WantRead, Bucket: "end", Key: "k"})
	u.ticks(3)
	if r := u.hosts[leader].got[tag]; r.Code != api.OK || r.Body != body {
		u.t.Fatalf("in the end: %s", short(r))
	}
}

// judges asks that what was answered as not laid is not in the log, and that what has a token was done once.
func (u *run) judges() {
	u.t.Helper()
	laid := map[string]int{}
	for _, e := range u.log {
		if e.Kind == api.EntryData {
			laid[e.Data]++
		}
	}
	for _, v := range u.events {
		u.n.codes[v.R.Code]++
		if v.W.Kind == api.WantNode && v.R.Code == api.OK {
			u.n.changes++
		}
		if v.W.Kind != api.WantCmd || v.W.Cmd.Kind != api.CmdPut {
			continue
		}
		n := laid[textOf(v.W)]
		if never := v.R.Code == api.ErrLeader || v.R.Code == api.ErrFull; never && n != 0 || n > 1 {
			u.t.Fatalf("%s was answered %s, and is in the log %d times", short(v.W), short(v.R), n)
		}
	}
}

// Promises 21.3 to 21.6: whatever comes, is lost, doubled and late, wherever the power fails and room is short: each answer fits the log between asking and answer (do asks that), and in the end it goes on.
func TestAny(t *testing.T) {
	all := &counts{codes: map[api.Errno]int{}}
	for seed := range 24 {
		hosts := 3 + seed%3
		c := newCluster(t, hosts, 0, 1, 2)
		u := &run{cluster: c, r: rand.New(rand.NewSource(int64(seed))), n: all}
		c.ticks(15)
		c.ask(0, makes("one"))
		for range 6000 {
			u.step()
		}
		u.heals()
		u.judges()
		all.took += c.taken
		for _, h := range c.hosts {
			all.full += h.n.Times()
		}
	}
	for _, e := range []api.Errno{api.OK, api.ErrLeader, api.ErrBusy, api.ErrFull, api.ErrDown, api.ErrNone, api.ErrKey, api.ErrMark, api.ErrVersion, api.ErrUpload, api.ErrThere, api.ErrFilled} {
		if all.codes[e] < 3 {
			t.Errorf("%v was answered %d times", e, all.codes[e])
		}
	}
	if all.fell < 20 || all.took < 5 || all.fetched < 20 || all.damaged < 20 || all.changes < 20 {
		t.Errorf("too little happened: %+v", *all)
	}
	t.Logf("%+v", *all)
}

// Same arguments, same answers: what a cluster tells hangs on nothing else.
func TestSameAgain(t *testing.T) {
	told := func() string {
		var b strings.Builder
		c := newCluster(t, 4, 0, 1, 2)
		u := &run{cluster: c, r: rand.New(rand.NewSource(7)), n: &counts{codes: map[api.Errno]int{}}}
		c.ticks(15)
		c.ask(0, makes("one"))
		for range 3000 {
			u.step()
			fmt.Fprintln(&b, len(c.log), c.msgs, c.notes)
		}
		fmt.Fprintln(&b, c.events)
		return b.String()
	}
	if told() != told() {
		t.Errorf("the same arguments have other answers")
	}
}

// Rule R3: what is handed in is not changed and not kept, and what is answered is of its own memory.
func TestSharesNothing(t *testing.T) {
	c := led(t, 3)
	own := strings.Clone
	body := own(bytesOf(5000))
	wants := []api.Want{
		{Kind: api.WantCmd, Cmd: api.Cmd{Kind: api.CmdPut, Bucket: own("one"), Key: own("key"), Token: own("token")}, Body: body},
		{Kind: api.WantRead, Bucket: own("one"), Key: own("key")},
		{Kind: api.WantKeys, Bucket: own("one"), Prefix: own("ke"), Delimiter: own("/"), After: own("a"), Most: 10},
		{Kind: api.WantCmd, Cmd: api.Cmd{Kind: api.CmdJoin, Bucket: own("one"), Key: own("key"), ID: 3, Picks: []api.Pick{{N: 1, Sum: sumOf("x")}, {N: 2, Sum: sumOf("y")}}}},
		{Kind: api.WantBuckets},
	}
	texts := make([]string, len(wants))
	for i, w := range wants {
		texts[i] = fmt.Sprintf("%#v", w)
	}
	var kept []any // so that no memory is another one's later on
	for _, w := range wants {
		kept = append(kept, w)
	}
	take := func(i int) ([]api.Msg, []api.Note) {
		g := c.hosts[i].g
		msgs, notes := g.Sent()
		for _, r := range g.Replies() {
			kept = append(kept, r)
		}
		kept = append(kept, msgs)
		for _, n := range notes {
			kept = append(kept, n)
		}
		return msgs, notes
	}
	for range 2 {
		for _, w := range wants {
			if _, e := c.hosts[0].g.Ask(w); e != api.OK {
				t.Fatalf("Ask(%s): %v", short(w), e)
			}
		}
		wants[3].Cmd.Picks[0].N = 7 // what the caller changes is its own
		for range 4 {
			for i := range c.hosts {
				msgs, notes := take(i)
				for _, m := range msgs {
					c.hosts[m.To].g.Step(m)
				}
				for _, n := range notes {
					c.hosts[n.To].g.Hear(n)
				}
			}
		}
		wants[3].Cmd.Picks[0].N = 1
	}
	for i := range c.hosts {
		take(i)
	}
	apart(t, kept...)
	for i, w := range wants {
		if fmt.Sprintf("%#v", w) != texts[i] {
			t.Errorf("a want was changed: %s", short(w))
		}
	}
	if c.hosts[0].g.Jobs() != 0 {
		t.Errorf("%d jobs wait", c.hosts[0].g.Jobs())
	}
	runtime.KeepAlive(kept)
	// What was read before it is changed is what counts.
	q, _ := route.Write(wants[3])
	if text := textOf(wants[3]); text == "" || q.Method != "POST" || !slices.ContainsFunc(logOf(c, 0), func(s string) bool { return s == text }) {
		t.Errorf("the command that was laid is not the one that was asked for")
	}
}

// logOf are the Data of a node's entries.
func logOf(c *cluster, i int) []string {
	var l []string
	for index := 1; index <= c.last(i); index++ {
		entry, _ := c.hosts[i].n.Raft().Entry(index)
		l = append(l, entry.Data)
	}
	return l
}

// Promise 21.1 and 21.2: any notes and messages, of drawn fields, are taken without harm, and leave jobs that are answered within their ticks.
func TestAnyNotes(t *testing.T) {
	r := rand.New(rand.NewSource(3))
	c := led(t, 3)
	g := c.hosts[0].g
	bodies := []string{"a", "b", bytesOf(api.MaxExtent), ""}
	for round := range 3000 {
		if round%50 == 0 {
			g.Ask(puts("k", bodies[r.Intn(3)]))
			g.Ask(reads("k", 0))
			g.Tick(0)
		}
		body := bodies[r.Intn(len(bodies))]
		n := api.Note{Kind: r.Intn(6), From: r.Intn(9) - 1, To: r.Intn(3) - 1, ID: extent.ID(bodies[r.Intn(3)]), Yes: r.Intn(2) == 0}
		if r.Intn(2) == 0 {
			n.Data, n.ID = body, extent.ID(body)
		}
		g.Hear(n)
		g.Step(api.Msg{Kind: r.Intn(8), From: r.Intn(4), To: r.Intn(2), Term: r.Intn(3), Index: r.Intn(9), Round: r.Intn(50), Yes: r.Intn(2) == 0})
		_, notes := g.Sent()
		for _, n := range notes {
			if !gate.Check(n) || n.From != 0 {
				t.Fatalf("told %s", short(n))
			}
		}
	}
	for range gate.Patience {
		g.Tick(0)
	}
	if g.Jobs() != 0 {
		t.Errorf("%d jobs wait", g.Jobs())
	}
}
