package raft_test

import (
	"fmt"
	"math/rand"
	"slices"
	"strings"
	"testing"

	"stowage/api"
	"stowage/conf"
	"stowage/raft"
)

// read is one that was asked for: where, in which term and round, what it was told, and what was committed anywhere by then.
type read struct {
	node, term, round, index, seen int
}

// cluster is nodes that agree, what is under way among them, and what they have shown so far.
type cluster struct {
	t       *testing.T
	r       *rand.Rand
	nodes   []*raft.Node // nil: it has stopped
	stopped []func() *raft.Node
	cut     map[[2]int]bool
	way     []api.Msg
	first   []int
	agreed  []api.Entry // by its index less 1
	sums    []string    // what a snapshot up to an index has as its data
	commits []int
	leaders map[int]int
	reads   []read
	sure    int
	takes   int
	changes int
	laid    int
}

func newCluster(t *testing.T, seed int, first []int) *cluster {
	c := &cluster{t: t, r: rand.New(rand.NewSource(int64(seed))), first: first, leaders: map[int]int{}, cut: map[[2]int]bool{}, sums: []string{""}}
	for i := range api.MaxNodes {
		n, e := raft.New(i, 0, -1, api.Shot{Members: first}, nil, c.r.Intn(100))
		if e != api.OK {
			t.Fatalf("New: %v", e)
		}
		c.nodes = append(c.nodes, n)
		c.stopped = append(c.stopped, nil)
		c.commits = append(c.commits, 0)
	}
	return c
}

// stop stops a node, with what it is to keep.
func (c *cluster) stop(i int) {
	n := c.nodes[i]
	term, vote := n.Hard()
	base := n.Base()
	l := entriesOf(n)
	draw := c.r.Intn(1000) - 500
	c.nodes[i] = nil
	c.stopped[i] = func() *raft.Node {
		n, e := raft.New(i, term, vote, base, l, draw)
		if e != api.OK {
			c.t.Fatalf("New of what was kept: %v", e)
		}
		return n
	}
}

// start lets a node stand up again.
func (c *cluster) start(i int) {
	c.nodes[i] = c.stopped[i]()
	c.commits[i] = c.nodes[i].Base().Index
}

// send lays messages under way, by their texts.
func (c *cluster) send(i int, l []api.Msg) {
	term, _ := c.nodes[i].Hard()
	for _, m := range l {
		s, e := raft.Encode(m)
		if e != api.OK || m.From != i || m.Term != term {
			c.t.Fatalf("the node %d in the term %d tells %v: %v", i, term, m, e)
		}
		again, e := raft.Decode(s)
		if e != api.OK || !sameMsg(again, m) {
			c.t.Fatalf("a text of %v says %v, %v", m, again, e)
		}
		if !c.cut[[2]int{m.From, m.To}] {
			c.way = append(c.way, again)
		}
	}
	c.look(i)
}

// comes takes a message from a place under way to its node.
func (c *cluster) comes(at int) {
	m := c.way[at]
	c.way = slices.Delete(c.way, at, at+1)
	if c.nodes[m.To] == nil || c.cut[[2]int{m.From, m.To}] {
		return
	}
	c.send(m.To, c.nodes[m.To].Step(m))
}

// sumOf is what a snapshot up to an index holds: it hangs on all entries, and has some pieces.
func (c *cluster) sumOf(index int) string {
	for len(c.sums) <= index {
		e := c.agreed[len(c.sums)-1]
		c.sums = append(c.sums, fmt.Sprintf("%d %d %d %q after %.60s;", len(c.sums), e.Term, e.Kind, e.Data, c.sums[len(c.sums)-1]))
	}
	return strings.Repeat(c.sums[index], 30)
}

// look asks of a node that did something all that it must never break.
func (c *cluster) look(i int) {
	n := c.nodes[i]
	term, _ := n.Hard()
	commit := n.Commit()
	if commit < c.commits[i] {
		c.t.Fatalf("the node %d had committed %d, and has %d", i, c.commits[i], commit)
	}
	base := n.Base()
	if s, is := n.Taken(); is {
		c.takes++
		if !sameShot(s, base) {
			c.t.Fatalf("the node %d took another snapshot than its base", i)
		}
		c.commits[i] = max(c.commits[i], s.Index)
	}
	for at := max(c.commits[i], base.Index) + 1; at <= commit; at++ {
		e, is := n.Entry(at)
		if !is {
			c.t.Fatalf("the node %d has committed %d, which it does not have", i, at)
		}
		if at > len(c.agreed) {
			c.agreed = append(c.agreed, e)
		} else if c.agreed[at-1] != e {
			c.t.Fatalf("the node %d has committed %v at %d, another one %v", i, e, at, c.agreed[at-1])
		}
	}
	c.commits[i] = commit
	if n.Role() == api.Leader {
		c.lookLeader(i, term)
	} else if n.Role() == api.Candidate && n.Leader() != -1 || n.Leader() == i {
		c.t.Fatalf("the node %d, which does not lead, knows %d as leader", i, n.Leader())
	}
	if base.Index > 0 {
		c.lookBase(i, base)
	}
	c.lookReads(i, term)
}

// lookBase asks that a base is what was agreed on.
func (c *cluster) lookBase(i int, s api.Shot) {
	members, _ := conf.Latest(c.first, c.agreed[:s.Index])
	if s.Term != c.agreed[s.Index-1].Term || !slices.Equal(s.Members, members) || s.Data != c.sumOf(s.Index) {
		c.t.Fatalf("the node %d has a base %d, %d, %v that was not agreed on", i, s.Index, s.Term, s.Members)
	}
}

// lookLeader asks that a leader is the only one of its term, has all that was committed, and changes one thing at a time.
func (c *cluster) lookLeader(i, term int) {
	n := c.nodes[i]
	was, is := c.leaders[term]
	if is && was != i || n.Leader() != i {
		c.t.Fatalf("the term %d has the leaders %d and %d", term, was, i)
	}
	last, _ := n.Last()
	base := n.Base().Index
	if !is {
		c.leaders[term] = i
		if last < len(c.agreed) {
			c.t.Fatalf("the node %d leads in %d with %d entries of %d", i, term, last, len(c.agreed))
		}
		for at := base + 1; at <= len(c.agreed); at++ {
			if e, _ := n.Entry(at); e != c.agreed[at-1] {
				c.t.Fatalf("the node %d leads in %d, and has %v at %d, not %v", i, term, e, at, c.agreed[at-1])
			}
		}
	}
	open := 0
	for at := max(len(c.agreed), base) + 1; at <= last; at++ {
		if e, _ := n.Entry(at); e.Kind == api.EntryConf {
			open++
		}
	}
	if open > 1 {
		c.t.Fatalf("the node %d leads with %d configurations that are not committed", i, open)
	}
}

// lookReads asks that reads that are sure saw all.
func (c *cluster) lookReads(i, term int) {
	c.reads = slices.DeleteFunc(c.reads, func(r read) bool {
		if r.node != i {
			return false
		}
		sure := c.nodes[i].Sure(r.term, r.round)
		if sure && (term != r.term || c.nodes[i].Role() != api.Leader) {
			c.t.Fatalf("a read of the term %d is sure in %d", r.term, term)
		}
		if sure && r.index < r.seen {
			c.t.Fatalf("a read at %d, of the term %d, was told %d and is sure, but %d was committed", i, r.term, r.index, r.seen)
		}
		if sure {
			c.sure++
		}
		return sure || term != r.term
	})
}

// lookLogs asks that logs with an entry in common are the same up to it, and that configurations in them are neighbours.
func (c *cluster) lookLogs() {
	for i, a := range c.nodes {
		if a == nil {
			continue
		}
		base := a.Base()
		lastA, _ := a.Last()
		members := base.Members
		for _, e := range entriesOf(a) {
			if e.Kind != api.EntryConf {
				continue
			}
			next, err := conf.Decode(e.Data)
			if err != api.OK || !conf.Near(members, next) {
				c.t.Fatalf("in the log of %d %v follows %v", i, next, members)
			}
			members = next
		}
		if !slices.Equal(a.Members(), members) {
			c.t.Fatalf("the node %d has the members %v, not %v", i, a.Members(), members)
		}
		for j, b := range c.nodes[:i] {
			if b == nil {
				continue
			}
			lastB, _ := b.Last()
			same := false
			for at := min(lastA, lastB); at > max(base.Index, b.Base().Index); at-- {
				x, _ := a.Entry(at)
				y, _ := b.Entry(at)
				same = same || x.Term == y.Term
				if same && x != y {
					c.t.Fatalf("the logs of %d and %d have an entry in common, and %v and %v at %d", i, j, x, y, at)
				}
			}
		}
	}
}

// leader is a node that is up and leads, of the greatest term; -1: none.
func (c *cluster) leader() int {
	best, term := -1, -1
	for i, n := range c.nodes {
		if t, _ := n.Hard(); n.Role() == api.Leader && t > term {
			best, term = i, t
		}
	}
	return best
}

// ask asks a node for something that a leader does; of any other one nothing may come.
func (c *cluster) ask(i int) {
	n := c.nodes[i]
	leads := n.Role() == api.Leader
	last, _ := n.Last()
	var index int
	var l []api.Msg
	var e api.Errno
	switch c.r.Intn(6) {
	case 0, 1, 2:
		c.laid++
		index, l, e = n.Propose(fmt.Sprint("command ", c.laid))
	case 3:
		members := n.Members()
		if to, err := conf.Add(members, c.r.Intn(7)); err == api.OK {
			members = to
		} else if to, err := conf.Drop(members, c.r.Intn(7)); err == api.OK && len(members) > 2 {
			members = to
		}
		if index, l, e = n.Change(members); e == api.OK {
			c.changes++
		}
	default:
		var round int
		term, _ := n.Hard()
		if round, index, l, e = n.Read(); e == api.OK {
			c.reads = append(c.reads, read{i, term, round, index, len(c.agreed)})
		}
		index = 0
	}
	if leads == (e == api.ErrLeader) || e != api.OK && (index != 0 || len(l) != 0) || e == api.OK && index != 0 && index != last+1 {
		c.t.Fatalf("the node %d was asked, and answers %d, %v, %v", i, index, l, e)
	}
	c.send(i, l)
}

// act does something that is drawn, if it can be done.
func (c *cluster) act() {
	i := c.r.Intn(len(c.nodes))
	switch k := c.r.Intn(100); {
	case k < 30:
		if c.nodes[i] != nil {
			c.send(i, c.nodes[i].Tick(c.r.Intn(1000)-500))
		}
	case k < 82:
		c.net(k - 30)
	case k < 84:
		c.power(i, k == 82)
	case k < 92:
		if to := c.leader(); to >= 0 && c.r.Intn(3) > 0 {
			i = to
		}
		if c.nodes[i] != nil {
			c.ask(i)
		}
	case k < 95:
		c.compact(i)
	case k == 95:
		c.cutOff(i)
	case k == 96:
		clear(c.cut)
	}
}

// net lets a message come, mostly, or loses or doubles one.
func (c *cluster) net(k int) {
	if len(c.way) > 300 {
		c.way = c.way[100:]
	}
	if len(c.way) == 0 {
		return
	}
	at := c.r.Intn(len(c.way))
	switch {
	case k == 0:
		c.way = slices.Delete(c.way, at, at+1)
	case k == 1:
		c.way = append(c.way, c.way[at])
	default:
		c.comes(c.r.Intn(min(len(c.way), 1+c.r.Intn(20))))
	}
}

// power stops a node, often one that leads, or lets it stand up again; most are up at most times.
func (c *cluster) power(i int, up bool) {
	if c.nodes[i] == nil {
		c.start(i)
		return
	}
	if to := c.leader(); to >= 0 && c.r.Intn(2) == 0 {
		i = to
	}
	if !up && c.r.Intn(2) == 0 {
		c.stop(i)
	}
}

// cutOff cuts a way, or all ways to or from a node, or both.
func (c *cluster) cutOff(i int) {
	if to := c.leader(); to >= 0 && c.r.Intn(2) == 0 {
		i = to
	}
	how := c.r.Intn(4)
	for j := range 7 {
		if how&1 != 0 {
			c.cut[[2]int{i, j}] = true
		}
		if how&2 != 0 {
			c.cut[[2]int{j, i}] = true
		}
	}
	if how == 0 {
		c.cut[[2]int{i, c.r.Intn(7)}] = true
	}
}

// compact puts a snapshot in the place of some entries of a node that are committed.
func (c *cluster) compact(i int) {
	n := c.nodes[i]
	if n == nil {
		return
	}
	index := n.Base().Index + 1 + c.r.Intn(8)
	if index <= n.Commit() {
		if e := n.Compact(index, c.sumOf(index)); e != api.OK {
			c.t.Fatalf("Compact: %v", e)
		}
	}
	c.look(i)
}

// all lets a tick pass at all nodes, and then lets all come that is under way, in order.
func (c *cluster) all() {
	for i, n := range c.nodes {
		if n != nil {
			c.send(i, n.Tick(c.r.Intn(1000)))
		}
	}
	for steps := 0; len(c.way) > 0; steps++ {
		if steps > 200000 {
			c.t.Fatalf("what is told does not end")
		}
		c.comes(0)
	}
}

// ends lets the cluster go on with all nodes up and all messages coming: one must lead, and what it lays is committed at all members.
func (c *cluster) ends() {
	clear(c.cut)
	for i := range c.nodes {
		if c.nodes[i] == nil {
			c.start(i)
		}
	}
	for range 400 {
		c.all()
	}
	c.lookLogs()
	lead := c.leader()
	if lead < 0 {
		c.t.Fatalf("nobody leads in the end")
	}
	n := c.nodes[lead]
	index, l, e := n.Propose("the last one")
	if e != api.OK {
		c.t.Fatalf("Propose in the end: %v", e)
	}
	c.send(lead, l)
	term, _ := n.Hard()
	round, at, l, e := n.Read()
	if e != api.OK {
		c.t.Fatalf("Read in the end: %v", e)
	}
	c.reads = append(c.reads, read{lead, term, round, at, len(c.agreed)})
	c.send(lead, l)
	for range 2 * raft.Beat {
		c.all()
	}
	if !n.Sure(term, round) {
		c.t.Fatalf("a read in the end is not sure")
	}
	for _, i := range n.Members() {
		x, is := c.nodes[i].Entry(index)
		if !is || x.Data != "the last one" || c.nodes[i].Commit() < index || c.nodes[i].Leader() != lead {
			c.t.Fatalf("the node %d has %v, %v in the end, and has committed %d of %d; it knows %d as leader, not %d", i, x, is, c.nodes[i].Commit(), index, c.nodes[i].Leader(), lead)
		}
	}
}

// Promises 10.3 to 10.6: drawn orders of ticks, messages that come, are lost, doubled and late, stops, cuts, snapshots, changes of members and reads.
func TestDrawnOrders(t *testing.T) {
	const seeds = 160
	clusters := make([]*cluster, seeds)
	t.Run("seeds", func(t *testing.T) {
		for seed := range seeds {
			first := [][]int{{0, 1, 2}, {0, 1, 2, 3, 4}, {0}, {2, 5}, {0, 1, 2, 3, 4, 5, 6}, {1, 3, 4, 6}}[seed%6]
			t.Run(fmt.Sprint(seed), func(t *testing.T) {
				t.Parallel()
				c := newCluster(t, seed, first)
				clusters[seed] = c
				for step := range 4000 {
					c.act()
					if step%40 == 0 {
						c.lookLogs()
					}
				}
				c.ends()
			})
		}
	})
	// Where too little happens, nothing is shown.
	sure, takes, changes, agreed, terms := 0, 0, 0, 0, 0
	for _, c := range clusters {
		sure, takes, changes, agreed, terms = sure+c.sure, takes+c.takes, changes+c.changes, agreed+len(c.agreed), terms+len(c.leaders)
	}
	told := fmt.Sprintf("%d reads were sure, %d snapshots came, %d configurations were laid, %d entries agreed on, %d leaders", sure, takes, changes, agreed, terms)
	t.Log(told)
	if sure < 10*seeds || takes < seeds || changes < 4*seeds || agreed < 30*seeds || terms < 4*seeds {
		t.Errorf("too little happened: %s", told)
	}
}

// late lets ticks pass at all nodes that are up, with draws that are unlike; each message comes so many ticks after it was told.
func (c *cluster) late(count, delay int) {
	type due struct {
		at int
		m  api.Msg
	}
	var way []due
	for now := range count {
		for i, n := range c.nodes {
			if n != nil {
				c.send(i, n.Tick(c.r.Intn(11)))
			}
		}
		for {
			for _, m := range c.way {
				way = append(way, due{now + delay, m})
			}
			c.way = nil
			if len(way) == 0 || way[0].at > now {
				break
			}
			m := way[0].m
			way = way[1:]
			if c.nodes[m.To] != nil {
				c.send(m.To, c.nodes[m.To].Step(m))
			}
		}
	}
}

// Promise 10.4: with any majority up, and messages that all come, at once or some ticks later, one leads, and what is laid there is committed at all that are up.
func TestGoesOn(t *testing.T) {
	for seed := range 200 {
		t.Run(fmt.Sprint(seed), func(t *testing.T) {
			t.Parallel()
			size := 1 + seed%7
			var first []int
			for i := range size {
				first = append(first, i)
			}
			c := newCluster(t, seed, first)
			for i := size; i < api.MaxNodes; i++ {
				c.stop(i)
			}
			for range seed % 3 * 1000 {
				i := c.r.Intn(size)
				switch k := c.r.Intn(20); {
				case k < 8 && c.nodes[i] != nil:
					c.send(i, c.nodes[i].Tick(c.r.Intn(1000)))
				case k < 16:
					c.net(c.r.Intn(30))
				case k == 17 && c.leader() >= 0:
					_, l, _ := c.nodes[c.leader()].Propose(fmt.Sprint("a command of ", seed))
					c.send(c.leader(), l)
				case k == 18:
					c.compact(i)
				case k == 19 && c.nodes[i] != nil && c.r.Intn(5) == 0:
					c.stop(i)
					c.start(i)
				}
			}
			c.way = nil
			up := c.r.Perm(size)[:size/2+1+c.r.Intn((size+1)/2)]
			for i := range size {
				if !slices.Contains(up, i) {
					c.stop(i)
				}
			}
			delay := seed / 7 % 3
			c.late(600, delay)
			lead := c.leader()
			if lead < 0 {
				t.Fatalf("of %d nodes %v are up, and nobody leads", size, up)
			}
			index, l, e := c.nodes[lead].Propose("the last one")
			if e != api.OK {
				t.Fatalf("Propose: %v", e)
			}
			c.send(lead, l)
			c.late(40, delay)
			for _, i := range up {
				if x, is := c.nodes[i].Entry(index); !is || x.Data != "the last one" || c.nodes[i].Commit() < index {
					t.Errorf("of %d nodes %v are up: %d has %v, %v, and has committed %d of %d", size, up, i, x, is, c.nodes[i].Commit(), index)
				}
			}
		})
	}
}

// Promise 10.4: a cluster that begins, and one whose leader stops, has another one within few ticks.
func TestLeadsSoon(t *testing.T) {
	for size := 1; size <= api.MaxNodes; size++ {
		var first []int
		for i := range size {
			first = append(first, i)
		}
		c := newCluster(t, size, first)
		for i := size; i < api.MaxNodes; i++ {
			c.stop(i)
		}
		for up := size; 2*up > size; up-- {
			took := 0
			for ; c.leader() < 0 && took < 120; took++ {
				c.all()
			}
			if took == 120 {
				t.Fatalf("%d of %d are up, and nobody leads", up, size)
			}
			c.stop(c.leader())
		}
	}
}
