package node_test

import (
	"fmt"
	"math/rand"
	"slices"
	"strings"
	"testing"

	"stowage/api"
	"stowage/conf"
	"stowage/disk"
	"stowage/node"
	"stowage/raft"
)

// asked is a read that was asked for: where, in which term and round, what it was told, and what was committed anywhere by then.
type asked struct {
	node, term, round, index, seen int
}

// host is a node with its disk, and what it has shown so far.
type host struct {
	d      *disk.Disk
	n      *node.Node // nil: it is down
	term   int
	votes  map[int]int // by terms
	commit int
	index  int // up to where entries came to it, or a snapshot
	times  int
}

// counts are how often things happened.
type counts struct {
	fell, full, came, takes, handed, sure, changes, laid, agreed, terms int
}

// cluster is nodes on their disks, what is under way among them, and what they have shown so far.
type cluster struct {
	t       *testing.T
	r       *rand.Rand
	hosts   []*host
	cut     map[[2]int]bool
	way     []api.Msg
	first   []int
	agreed  []api.Entry // by its index less 1
	sums    []string    // what a snapshot up to an index has as its data
	leaders map[int]int
	reads   []asked
	counts
}

func newCluster(t *testing.T, seed int, first []int) *cluster {
	c := &cluster{t: t, r: rand.New(rand.NewSource(int64(seed))), first: first, leaders: map[int]int{}, cut: map[[2]int]bool{}, sums: []string{""}}
	for i := range api.MaxNodes {
		c.hosts = append(c.hosts, &host{d: disk.New(), votes: map[int]int{}})
		c.start(i)
	}
	return c
}

// start lets a node stand up from its disk, if it can.
func (c *cluster) start(i int) {
	h := c.hosts[i]
	h.d.Up()
	n, e := node.Open(h.d, i, c.first, c.r.Intn(1000)-500)
	switch e {
	case api.OK:
		h.n, h.times = n, 0
		h.commit, h.index = n.Raft().Commit(), n.Raft().Base().Index
		c.look(i)
	case api.ErrDown, api.ErrFull:
	default:
		c.t.Fatalf("Open of the node %d: %v", i, e)
	}
}

// does takes what a call of a node told, if it was done.
func (c *cluster) does(i int, l []api.Msg, e api.Errno) {
	h := c.hosts[i]
	if e != api.OK && len(l) > 0 {
		c.t.Fatalf("the node %d tells %d messages and %v", i, len(l), e)
	}
	switch e {
	case api.ErrDown:
		c.fell++
		if h.n.Raft() != nil {
			c.t.Fatalf("the node %d is not down", i)
		}
		h.n = nil
		return
	case api.ErrFull:
		c.full++
		h.times++
		h.commit = h.n.Raft().Base().Index
	}
	term, _ := h.n.Raft().Hard()
	for _, m := range l {
		if !raft.Check(m) || m.From != i || m.Term != term {
			c.t.Fatalf("the node %d in the term %d tells %v", i, term, m)
		}
		if !c.cut[[2]int{m.From, m.To}] {
			c.way = append(c.way, m)
		}
	}
	if h.d.Waits() != 0 {
		c.t.Fatalf("the node %d has told something, and %d changes wait", i, h.d.Waits())
	}
	if c.r.Intn(20) == 0 {
		isKept(c.t, fmt.Sprint("the node ", i), h.n, h.d, c.first...)
	}
	c.look(i)
}

// comes takes a message from a place under way to its node.
func (c *cluster) comes(at int) {
	m := c.way[at]
	c.way = slices.Delete(c.way, at, at+1)
	if c.hosts[m.To].n == nil || c.cut[[2]int{m.From, m.To}] {
		return
	}
	n := c.hosts[m.To].n
	base := n.Raft().Base().Index
	l, e := n.Step(m)
	if n.Raft().Base().Index > base {
		c.came++
	}
	c.does(m.To, l, e)
}

// sumOf is what a snapshot up to an index holds: it hangs on all entries, and has some pieces.
func (c *cluster) sumOf(index int) string {
	for len(c.sums) <= index {
		e := c.agreed[len(c.sums)-1]
		c.sums = append(c.sums, fmt.Sprintf("%d %d %d %q after %.60s;", len(c.sums), e.Term, e.Kind, e.Data, c.sums[len(c.sums)-1]))
	}
	return strings.Repeat(c.sums[index], 25)
}

// look asks of a node that did something all that it must never break.
func (c *cluster) look(i int) {
	h := c.hosts[i]
	r := h.n.Raft()
	c.lookHard(i)
	commit := r.Commit()
	if commit < h.commit || h.n.Times() != h.times {
		c.t.Fatalf("the node %d had committed %d, and has %d; Times %d", i, h.commit, commit, h.n.Times())
	}
	base := r.Base()
	for at := max(h.commit, base.Index) + 1; at <= commit; at++ {
		e, is := r.Entry(at)
		if !is {
			c.t.Fatalf("the node %d has committed %d, which it does not have", i, at)
		}
		if at > len(c.agreed) {
			c.agreed = append(c.agreed, e)
		} else if c.agreed[at-1] != e {
			c.t.Fatalf("the node %d has committed %v at %d, another one %v", i, e, at, c.agreed[at-1])
		}
	}
	h.commit = commit
	term, _ := r.Hard()
	if r.Role() == api.Leader {
		c.lookLeader(i, term)
	}
	if base.Index > 0 {
		c.lookBase(i, base)
	}
	c.lookReads(i, term)
	if c.r.Intn(2) == 0 {
		c.hands(i, c.r.Intn(8))
	}
}

// lookHard asks that a node's term never falls, and that it votes once in it, whatever becomes of its power.
func (c *cluster) lookHard(i int) {
	h := c.hosts[i]
	term, vote := h.n.Raft().Hard()
	was, voted := h.votes[term]
	if term < h.term || voted && vote != was {
		c.t.Fatalf("the node %d in the term %d voted for %d; it was in %d, and voted for %d", i, term, vote, h.term, was)
	}
	h.term = term
	if vote >= 0 {
		h.votes[term] = vote
	}
}

// hands lets a node hand out some entries, and a snapshot to begin with.
func (c *cluster) hands(i, most int) {
	h := c.hosts[i]
	for range most {
		if s, is := h.n.Taken(); is {
			c.takes++
			if !sameShot(s, h.n.Raft().Base()) || s.Index > 0 && s.Data != c.sumOf(s.Index) {
				c.t.Fatalf("the node %d took another snapshot than its base", i)
			}
			h.index = s.Index
		}
		e, at, is := h.n.Next()
		if !is {
			if h.index != h.n.Raft().Commit() {
				c.t.Fatalf("the node %d has committed %d, and hands out %d", i, h.n.Raft().Commit(), h.index)
			}
			return
		}
		c.handed++
		if at != h.index+1 || e != c.agreed[at-1] {
			c.t.Fatalf("the node %d hands out %v at %d behind %d, not %v", i, e, at, h.index, c.agreed[at-1])
		}
		h.index = at
	}
}

// lookBase asks that a base is what was agreed on.
func (c *cluster) lookBase(i int, s api.Shot) {
	members, _ := conf.Latest(c.first, c.agreed[:s.Index])
	if s.Term != c.agreed[s.Index-1].Term || !slices.Equal(s.Members, members) || s.Data != c.sumOf(s.Index) {
		c.t.Fatalf("the node %d has a base %d, %d, %v that was not agreed on", i, s.Index, s.Term, s.Members)
	}
}

// lookLeader asks that a leader is the only one of its term, has all that was committed, and changes one thing at a time.
func (c *cluster) lookLeader(i, term int) {
	r := c.hosts[i].n.Raft()
	was, is := c.leaders[term]
	if is && was != i || r.Leader() != i {
		c.t.Fatalf("the term %d has the leaders %d and %d", term, was, i)
	}
	last, _ := r.Last()
	base := r.Base().Index
	if !is {
		c.leaders[term] = i
		if last < len(c.agreed) {
			c.t.Fatalf("the node %d leads in %d with %d entries of %d", i, term, last, len(c.agreed))
		}
		for at := base + 1; at <= len(c.agreed); at++ {
			if e, _ := r.Entry(at); e != c.agreed[at-1] {
				c.t.Fatalf("the node %d leads in %d, and has %v at %d, not %v", i, term, e, at, c.agreed[at-1])
			}
		}
	}
	open := 0
	for at := max(len(c.agreed), base) + 1; at <= last; at++ {
		if e, _ := r.Entry(at); e.Kind == api.EntryConf {
			open++
		}
	}
	if open > 1 {
		c.t.Fatalf("the node %d leads with %d configurations that are not committed", i, open)
	}
}

// lookReads asks that reads that are sure saw all.
func (c *cluster) lookReads(i, term int) {
	c.reads = slices.DeleteFunc(c.reads, func(r asked) bool {
		if r.node != i {
			return false
		}
		sure := c.hosts[i].n.Sure(r.term, r.round)
		if sure && (term != r.term || c.hosts[i].n.Raft().Role() != api.Leader) {
			c.t.Fatalf("a read of the term %d is sure in %d", r.term, term)
		}
		if sure && r.index < r.seen {
			c.t.Fatalf("a read at %d, of the term %d, was told %d and is sure, but %d was committed", i, r.term, r.index, r.seen)
		}
		if sure {
			c.sure++
		}
		return sure || term != r.term
	})
}

// lookLogs asks that logs with an entry in common are the same up to it, and that configurations in them are neighbours.
func (c *cluster) lookLogs() {
	for i, h := range c.hosts {
		if h.n.Raft() == nil {
			continue
		}
		a := of(h.n.Raft())
		members := a.base.Members
		for _, e := range a.entries {
			if e.Kind != api.EntryConf {
				continue
			}
			next, err := conf.Decode(e.Data)
			if err != api.OK || !conf.Near(members, next) {
				c.t.Fatalf("in the log of %d %v follows %v", i, next, members)
			}
			members = next
		}
		for j, other := range c.hosts[:i] {
			if other.n.Raft() != nil {
				c.lookTwo(i, j, a, of(other.n.Raft()))
			}
		}
	}
}

// lookTwo asks that two logs with an entry in common are the same up to it.
func (c *cluster) lookTwo(i, j int, a, b state) {
	same := false
	last := min(a.base.Index+len(a.entries), b.base.Index+len(b.entries))
	for at := last; at > max(a.base.Index, b.base.Index); at-- {
		x, y := a.entries[at-1-a.base.Index], b.entries[at-1-b.base.Index]
		same = same || x.Term == y.Term
		if same && x != y {
			c.t.Fatalf("the logs of %d and %d have an entry in common, and %v and %v at %d", i, j, x, y, at)
		}
	}
}

// leader is a node that is up and leads, of the greatest term; -1: none.
func (c *cluster) leader() int {
	best, term := -1, -1
	for i, h := range c.hosts {
		r := h.n.Raft()
		if t, _ := r.Hard(); r.Role() == api.Leader && t > term {
			best, term = i, t
		}
	}
	return best
}

// ask asks a node for something that a leader does; of any other one nothing may come.
func (c *cluster) ask(i int) {
	n := c.hosts[i].n
	r := n.Raft()
	leads := r.Role() == api.Leader
	last, _ := r.Last()
	term, _ := r.Hard()
	var index int
	var l []api.Msg
	var e api.Errno
	switch c.r.Intn(6) {
	case 0, 1, 2:
		c.laid++
		index, l, e = n.Propose(fmt.Sprint("command ", c.laid, strings.Repeat(".", c.r.Intn(40)*c.r.Intn(4))))
	case 3:
		members := r.Members()
		if to, err := conf.Add(members, c.r.Intn(7)); err == api.OK {
			members = to
		} else if to, err := conf.Drop(members, c.r.Intn(7)); err == api.OK && len(members) > 2 {
			members = to
		}
		if index, l, e = n.Change(members); e == api.OK {
			c.changes++
		}
	default:
		var round int
		if round, index, l, e = n.Read(); e == api.OK {
			c.reads = append(c.reads, asked{i, term, round, index, len(c.agreed)})
		}
		if e != api.OK && round != 0 {
			c.t.Fatalf("the node %d was asked, and answers %d, %v", i, round, e)
		}
		index *= btoi(e != api.OK)
	}
	if e != api.ErrDown && leads == (e == api.ErrLeader) || e != api.OK && index != 0 || e == api.OK && index != 0 && index != last+1 {
		c.t.Fatalf("the node %d was asked, and answers %d, %v, %v", i, index, l, e)
	}
	c.does(i, l, e)
}

func btoi(b bool) int {
	if b {
		return 1
	}
	return 0
}

// act does something that is drawn, if it can be done.
func (c *cluster) act() {
	i := c.r.Intn(len(c.hosts))
	h := c.hosts[i]
	switch k := c.r.Intn(100); {
	case k < 30:
		if h.n != nil {
			l, e := h.n.Tick(c.r.Intn(1000) - 500)
			c.does(i, l, e)
		}
	case k < 80:
		c.net(k - 30)
	case k < 82:
		c.power(i)
	case k < 84:
		c.room(i)
	case k < 92:
		if to := c.leader(); to >= 0 && c.r.Intn(3) > 0 {
			i = to
		}
		if c.hosts[i].n.Raft() != nil {
			c.ask(i)
		}
	case k < 95:
		c.compact(i)
	case k == 95:
		c.cutOff(i)
	case k == 96:
		clear(c.cut)
	}
}

// net lets a message come, mostly, or loses or doubles one.
func (c *cluster) net(k int) {
	if len(c.way) > 300 {
		c.way = c.way[100:]
	}
	if len(c.way) == 0 {
		return
	}
	at := c.r.Intn(len(c.way))
	switch {
	case k == 0:
		c.way = slices.Delete(c.way, at, at+1)
	case k == 1:
		c.way = append(c.way, c.way[at])
	default:
		c.comes(c.r.Intn(min(len(c.way), 1+c.r.Intn(20))))
	}
}

// power lets the power of a node fail, now or at a change that is to come, or lets it come again; most are up at most times.
func (c *cluster) power(i int) {
	if down := slices.IndexFunc(c.hosts, func(h *host) bool { return h.n == nil }); down >= 0 && c.r.Intn(3) > 0 {
		c.start(down)
		return
	}
	if to := c.leader(); to >= 0 && c.r.Intn(2) == 0 {
		i = to
	}
	h := c.hosts[i]
	switch {
	case h.n == nil:
	case c.r.Intn(2) == 0:
	case c.r.Intn(4) == 0:
		h.d.Fail(c.r.Intn(3), c.r.Intn(50))
		h.n = nil
	default:
		h.d.Plan([]api.Fall{{At: h.d.Changes() + c.r.Intn(8), Keep: c.r.Intn(6), Torn: c.r.Intn(100)}})
	}
}

// room lets room be short for some nodes, or there again.
func (c *cluster) room(i int) {
	if c.r.Intn(3) > 0 {
		for _, h := range c.hosts {
			h.d.Room(-1)
		}
		return
	}
	d := c.hosts[i].d
	d.Room(d.Used() + c.r.Intn(60)*c.r.Intn(6)*c.r.Intn(8))
}

// cutOff cuts a way, or all ways to or from a node, or both.
func (c *cluster) cutOff(i int) {
	if to := c.leader(); to >= 0 && c.r.Intn(2) == 0 {
		i = to
	}
	how := c.r.Intn(4)
	for j := range api.MaxNodes {
		if how&1 != 0 {
			c.cut[[2]int{i, j}] = true
		}
		if how&2 != 0 {
			c.cut[[2]int{j, i}] = true
		}
	}
	if how == 0 {
		c.cut[[2]int{i, c.r.Intn(api.MaxNodes)}] = true
	}
}

// compact puts a snapshot in the place of some entries of a node that were handed out.
func (c *cluster) compact(i int) {
	h := c.hosts[i]
	if h.n.Raft() == nil {
		return
	}
	base := h.n.Raft().Base().Index
	index := base + 1 + c.r.Intn(12)
	if index > len(c.agreed) {
		return
	}
	_, begins := h.n.Taken()
	if begins {
		h.index = base
	}
	e := h.n.Compact(index, c.sumOf(index))
	if (e == api.ErrArg) != (index > h.index) && e != api.ErrDown {
		c.t.Fatalf("Compact of %d at the node %d, which handed out %d: %v", index, i, h.index, e)
	}
	c.does(i, nil, e)
}

// all lets a tick pass at all nodes, with draws that are unlike, and then lets all come that is under way, in order.
func (c *cluster) all(now int) {
	for i, h := range c.hosts {
		if h.n != nil {
			l, e := h.n.Tick((3*i + now) % 11)
			c.does(i, l, e)
		}
	}
	for steps := 0; len(c.way) > 0; steps++ {
		if steps > 200000 {
			c.t.Fatalf("what is told does not end")
		}
		c.comes(0)
	}
}

// ends lets the cluster go on with all nodes up, with room, and all messages coming: within 120 ticks one must lead, and what it lays comes to all members.
func (c *cluster) ends() {
	clear(c.cut)
	c.way = nil
	for i, h := range c.hosts {
		h.d.Plan(nil)
		h.d.Room(-1)
		if h.n.Raft() == nil {
			h.n = nil
			c.start(i)
		}
		if h.n == nil {
			c.t.Fatalf("the node %d can not stand up", i)
		}
	}
	for now := range 120 {
		c.all(now)
	}
	c.lookLogs()
	lead := c.leader()
	if lead < 0 {
		c.t.Fatalf("nobody leads in the end")
	}
	n := c.hosts[lead].n
	index, l, e := n.Propose("the last one")
	ok(c.t, "Propose in the end", e)
	c.does(lead, l, e)
	term, _ := n.Raft().Hard()
	round, at, l, e := n.Read()
	ok(c.t, "Read in the end", e)
	c.reads = append(c.reads, asked{lead, term, round, at, len(c.agreed)})
	c.does(lead, l, e)
	for now := range 2 * raft.Beat {
		c.all(120 + now)
	}
	if !n.Sure(term, round) {
		c.t.Fatalf("a read in the end is not sure")
	}
	for _, i := range n.Raft().Members() {
		h := c.hosts[i]
		c.hands(i, 1<<30)
		if x, is := h.n.Raft().Entry(index); !is || x.Data != "the last one" || h.index < index || h.n.Raft().Leader() != lead {
			c.t.Fatalf("the node %d has %v, %v in the end, and handed out %d of %d; it knows %d as leader, not %d", i, x, is, h.index, index, h.n.Raft().Leader(), lead)
		}
	}
	c.counts.agreed, c.counts.terms = len(c.agreed), len(c.leaders)
}

// Promises 11.3 to 11.5: drawn orders of ticks, messages that come, are lost, doubled and late, losses of power at any change, want of room, cuts, snapshots, changes of members and reads.
func TestDrawnOrders(t *testing.T) {
	const seeds = 140
	clusters := make([]*cluster, seeds)
	t.Run("seeds", func(t *testing.T) {
		for seed := range seeds {
			first := [][]int{{0, 1, 2}, {0, 1, 2, 3, 4}, {0}, {2, 5}, {0, 1, 2, 3, 4, 5, 6}, {1, 3, 4, 6}}[seed%6]
			t.Run(fmt.Sprint(seed), func(t *testing.T) {
				t.Parallel()
				c := newCluster(t, seed, first)
				clusters[seed] = c
				for step := range 6000 {
					c.act()
					if step%40 == 0 {
						c.lookLogs()
					}
				}
				c.ends()
			})
		}
	})
	if t.Failed() {
		return
	}
	// Where too little happens, nothing is shown.
	var n counts
	for _, c := range clusters {
		n.fell, n.full, n.came, n.takes, n.handed = n.fell+c.fell, n.full+c.full, n.came+c.came, n.takes+c.takes, n.handed+c.handed
		n.sure, n.changes, n.agreed, n.terms = n.sure+c.sure, n.changes+c.changes, n.agreed+c.counts.agreed, n.terms+c.counts.terms
	}
	told := fmt.Sprintf("%d losses of power, %d times without room, %d snapshots from leaders, %d to begin with, %d entries handed out, %d reads sure, %d configurations laid, %d entries agreed on, %d leaders", n.fell, n.full, n.came, n.takes, n.handed, n.sure, n.changes, n.agreed, n.terms)
	t.Log(told)
	if n.fell < 10*seeds || n.full < 5*seeds || n.came < seeds || n.takes < 3*seeds || n.handed < 100*seeds || n.sure < 5*seeds || n.changes < 3*seeds || n.agreed < 25*seeds || n.terms < 5*seeds {
		t.Errorf("too little happened: %s", told)
	}
}

// Promise 11.4: as long as a majority is up, and has room, one leads within few ticks, and what is laid there is handed out by all of these; whether the others have no power, or no room.
func TestGoesOn(t *testing.T) {
	for size := 1; size <= api.MaxNodes; size++ {
		for _, powerless := range []bool{true, false} {
			var first []int
			for i := range size {
				first = append(first, i)
			}
			c := newCluster(t, size, first)
			for i := size; i < api.MaxNodes; i++ {
				c.hosts[i].d.Fail(0, 0)
				c.hosts[i].n = nil
			}
			out := map[int]bool{}
			for now := 0; 2*(size-len(out)) > size; {
				what := fmt.Sprintf("%d of %d are up", size-len(out), size)
				for range 120 {
					c.all(now)
					now++
				}
				lead := c.leader()
				if lead < 0 || out[lead] {
					t.Fatalf("%s: %d leads", what, lead)
				}
				index, l, e := c.hosts[lead].n.Propose(what)
				ok(t, what, e)
				c.does(lead, l, e)
				for range 2 * raft.Beat {
					c.all(now)
					now++
				}
				for i := range size {
					if out[i] {
						continue
					}
					c.hands(i, 1<<30)
					if x, is := c.hosts[i].n.Raft().Entry(index); !is || x.Data != what || c.hosts[i].index < index {
						t.Fatalf("%s: the node %d has %v, %v, and handed out %d of %d", what, i, x, is, c.hosts[i].index, index)
					}
				}
				c.takeOut(lead, powerless)
				out[lead] = true
			}
		}
	}
}

// takeOut lets a leader lay something for which there is no power, or no room, from then on.
func (c *cluster) takeOut(i int, powerless bool) {
	h := c.hosts[i]
	want := api.ErrDown
	if powerless {
		h.d.Plan([]api.Fall{{At: h.d.Changes()}})
	} else {
		h.d.Room(h.d.Used())
		want = api.ErrFull
	}
	_, l, e := h.n.Propose("the last one of this leader")
	is(c.t, "Propose", e, want)
	c.does(i, l, e)
}
