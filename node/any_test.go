package node_test

import (
	"fmt"
	"math"
	"math/rand"
	"slices"
	"strings"
	"testing"

	"stowage/api"
	"stowage/disk"
	"stowage/node"
	"stowage/raft"
	"stowage/shot"
)

// sameMsg tells whether messages are the same; no list and an empty one are.
func sameMsg(a, b api.Msg) bool {
	return a.Kind == b.Kind && a.From == b.From && a.To == b.To && a.Term == b.Term && a.Index == b.Index && a.LogTerm == b.LogTerm && a.Commit == b.Commit && a.Round == b.Round && a.At == b.At && a.Yes == b.Yes && a.Data == b.Data && slices.Equal(a.Entries, b.Entries)
}

// twin is a node, and beside it a node of layer 10 that no disk hinders.
type twin struct {
	t       *testing.T
	r       *rand.Rand
	d       *disk.Disk
	n       *node.Node
	plain   *raft.Node
	members []int
	draw    int
	handed  int
	begins  bool // a snapshot is to be told
	times   int
	seen    [3]int // how often a call was done, found no room, found no power
	taken   int
	roles   [3]int
}

// copyAnew makes the plain node of what the other one has.
func (w *twin) copyAnew() {
	a := of(w.n.Raft())
	var e api.Errno
	w.plain, e = raft.New(0, a.term, a.vote, a.base, a.entries, w.draw)
	ok(w.t, "raft.New", e)
	w.handed = a.base.Index
}

// open opens the node from its disk.
func (w *twin) open() {
	w.d.Up()
	w.d.Plan(nil)
	w.d.Room(-1)
	w.draw = w.r.Intn(100)
	var e api.Errno
	w.n, e = node.Open(w.d, 0, w.members, w.draw)
	ok(w.t, "Open", e)
	w.begins, w.times = false, 0
	w.copyAnew()
}

// same asks that both are the same.
func (w *twin) same(what string) {
	w.t.Helper()
	r := w.n.Raft()
	if a, b := of(r), of(w.plain); !a.same(b) || r.Role() != w.plain.Role() || r.Leader() != w.plain.Leader() || r.Commit() != w.plain.Commit() {
		w.t.Fatalf("%s:\n%v\nnot\n%v\nRole %d, Leader %d, Commit %d", what, a, b, r.Role(), r.Leader(), r.Commit())
	}
	if w.n.Times() != w.times || w.n.Me() != 0 {
		w.t.Fatalf("%s: Times %d, not %d", what, w.n.Times(), w.times)
	}
	term := w.r.Intn(9)
	if round := w.r.Intn(5) - 1; w.n.Sure(term, round) != w.plain.Sure(term, round) {
		w.t.Fatalf("%s: Sure", what)
	}
}

// does calls both, and asks for the same of both, or for what is left where the disk hinders the one.
func (w *twin) does(what string, a answer, want answer, before state) {
	w.t.Helper()
	if w.d.Down() && a.e != api.ErrDown || a.e == api.OK && w.d.Waits() != 0 {
		w.t.Fatalf("%s: %v, the disk is down: %v", what, a, w.d.Down())
	}
	after := of(w.plain)
	switch {
	case want.e == api.OK && a.e == api.ErrDown:
		w.seen[2]++
		isDown(w.t, what, w.n, 0, w.times)
		w.open()
	case want.e == api.OK && a.e == api.ErrFull:
		w.seen[1]++
		w.times++
		w.begins = true
		w.copyAnew()
	default:
		w.seen[0]++
		if a.e != want.e || a.index != want.index || a.round != want.round || !slices.EqualFunc(a.told, want.told, sameMsg) {
			w.t.Fatalf("%s: %v, not %v", what, a, want)
		}
		if _, is := w.plain.Taken(); is {
			w.begins = true
			w.taken++
		}
	}
	if found := of(w.n.Raft()); !mayBe(before, after, found) {
		w.t.Fatalf("%s: it was\n%v\nwas to be\n%v\nand is\n%v", what, before, after, found)
	}
	w.same(what)
	w.roles[w.n.Raft().Role()]++
}

// hands asks for entries and snapshots, some of them.
func (w *twin) hands(what string) {
	w.t.Helper()
	for range w.r.Intn(6) {
		if w.r.Intn(3) == 0 {
			s, is := w.n.Taken()
			if is != w.begins || is && !sameShot(s, w.plain.Base()) || !is && !sameShot(s, api.Shot{}) {
				w.t.Fatalf("%s: Taken: %v, %v", what, s, is)
			}
			if is {
				w.begins, w.handed = false, s.Index
			}
			continue
		}
		e, i, is := w.n.Next()
		want, there := w.plain.Entry(w.handed + 1)
		if w.begins || w.handed >= w.plain.Commit() {
			want, there = api.Entry{}, false
		}
		if is != there || e != want || is && i != w.handed+1 || !is && i != 0 {
			w.t.Fatalf("%s: Next: %v, %d, %v, not %v", what, e, i, is, want)
		}
		if is {
			w.handed++
		}
	}
}

// drawn is a number that is small mostly, sometimes one at a bound or beyond.
func drawn(r *rand.Rand, small int) int {
	if r.Intn(60) == 0 {
		return []int{-1, api.MaxTerm, api.MaxTerm + 1, math.MinInt, math.MaxInt}[r.Intn(5)]
	}
	return r.Intn(small)
}

// anyMsg is a message to the node that is drawn, most of them ones that may be, and that change something.
func anyMsg(r *rand.Rand, n *raft.Node) api.Msg {
	term, _ := n.Hard()
	last, lastTerm := n.Last()
	m := api.Msg{Kind: 1 + r.Intn(6), From: 1 + r.Intn(4), Term: term, Index: last, LogTerm: lastTerm, Commit: drawn(r, last+3), Round: drawn(r, 5), At: drawn(r, 3) * 1024, Yes: r.Intn(2) == 0}
	if r.Intn(9) == 0 {
		m.Term += r.Intn(4) - 1
	}
	if n.Role() == api.Candidate && r.Intn(2) == 0 {
		m.Kind, m.Yes = api.MsgVoted, true
	}
	if r.Intn(3) == 0 {
		m.Index = max(last-r.Intn(6), 0)
		e, _ := n.Entry(m.Index)
		m.LogTerm = e.Term
	}
	if r.Intn(8) == 0 && m.Kind != api.MsgShot {
		m.Index, m.LogTerm = drawn(r, last+3), drawn(r, 4)
	}
	ahead := m.LogTerm
	for range r.Intn(5) {
		ahead = min(ahead+r.Intn(2), max(m.Term, 0))
		e := api.Entry{Term: ahead, Kind: r.Intn(2), Data: fmt.Sprint(r.Intn(9))}
		if r.Intn(8) == 0 {
			e = says(ahead, [][]int{{0}, {0, 1}, {0, 1, 2}, {1, 2}, {3}}[r.Intn(5)]...)
		}
		if r.Intn(8) == 0 {
			e.Data = strings.Repeat("long ", r.Intn(400))
		}
		m.Entries = append(m.Entries, e)
	}
	if m.Kind != api.MsgShot {
		return m
	}
	m.Index += r.Intn(3)
	if r.Intn(3) > 0 {
		s := shotOf(m.Index, m.LogTerm, r.Intn(1000), 0, 1, 2)
		text, _ := shot.Encode(s)
		m.At, m.Yes, m.Data = 0, true, text
	}
	return m
}

// asks calls both with something that is drawn.
func (w *twin) asks(what string) {
	r := w.r
	before := of(w.plain)
	switch k := r.Intn(14); {
	case k < 5:
		for range 1 + r.Intn(14) {
			draw := drawn(r, 100)
			w.draw = draw
			before = of(w.plain)
			l, e := w.n.Tick(draw)
			w.does(what+", Tick", answer{told: l, e: e}, answer{told: w.plain.Tick(draw)}, before)
		}
	case k < 10:
		m := anyMsg(r, w.plain)
		l, e := w.n.Step(m)
		w.does(fmt.Sprintf("%s, Step of %d", what, m.Kind), answer{told: l, e: e}, answer{told: w.plain.Step(m)}, before)
	case k == 10:
		data := strings.Repeat("p", drawn(r, 200)&0x1ffff)
		i, l, e := w.n.Propose(data)
		wantI, wantL, wantE := w.plain.Propose(data)
		w.does(what+", Propose", answer{index: i, told: l, e: e}, answer{index: wantI, told: wantL, e: wantE}, before)
	case k == 11:
		to := [][]int{nil, {0}, {0, 1}, {0, 1, 2}, {1, 2}, {0, 3}, {7}}[r.Intn(7)]
		i, l, e := w.n.Change(to)
		wantI, wantL, wantE := w.plain.Change(to)
		w.does(what+", Change", answer{index: i, told: l, e: e}, answer{index: wantI, told: wantL, e: wantE}, before)
	case k == 12:
		round, i, l, e := w.n.Read()
		wantRound, wantI, wantL, wantE := w.plain.Read()
		w.does(what+", Read", answer{round, i, l, e}, answer{wantRound, wantI, wantL, wantE}, before)
	default:
		index := drawn(r, w.plain.Commit()+2)
		data := strings.Repeat("c", r.Intn(300))
		if r.Intn(20) == 0 {
			data = strings.Repeat("c", api.MaxShot+r.Intn(2))
		}
		e := w.n.Compact(index, data)
		want := api.ErrArg
		if index <= w.handed {
			want = w.plain.Compact(index, data)
		}
		w.does(fmt.Sprintf("%s, Compact(%d), handed %d", what, index, w.handed), answer{e: e}, answer{e: want}, before)
	}
}

// Promises 11.1 to 11.5: any calls and messages, held against a node of layer 10, with losses of power and without room.
func TestTwins(t *testing.T) {
	const seeds = 200
	var seen, roles [3]int
	taken := 0
	for seed := range seeds {
		r := rand.New(rand.NewSource(int64(seed)))
		w := &twin{t: t, r: r, d: disk.New(), members: []int{0, 1, 2}[:1+seed%3]}
		w.open()
		for n := range 300 {
			what := fmt.Sprintf("seed %d, call %d", seed, n)
			w.d.Plan(nil)
			w.d.Room(-1)
			switch r.Intn(4) {
			case 0:
				w.d.Plan([]api.Fall{{At: w.d.Changes() + r.Intn(6), Keep: r.Intn(5), Torn: r.Intn(80)}})
			case 1:
				w.d.Room(w.d.Used() + r.Intn(40)*r.Intn(4))
			}
			w.asks(what)
			w.hands(what)
			if r.Intn(4) == 0 {
				isKept(t, what, w.n, w.d, w.members...)
			}
		}
		for i := range 3 {
			seen[i] += w.seen[i]
			roles[i] += w.roles[i]
		}
		taken += w.taken
	}
	told := fmt.Sprintf("%d calls were done, %d found no room, %d no power; %v roles; %d snapshots came", seen[0], seen[1], seen[2], roles, taken)
	t.Log(told)
	if seen[1] < 5*seeds || seen[2] < 5*seeds || slices.Min(roles[:]) < 10*seeds || taken < 3*seeds {
		t.Errorf("too little happened: %s", told)
	}
}
