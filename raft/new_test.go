package raft_test

import (
	"fmt"
	"math"
	"slices"
	"strings"
	"testing"
	"unsafe"

	"stowage/api"
	"stowage/raft"
)

// The example of the chapter.
func TestExample(t *testing.T) {
	n := made(t, 0, 0, -1, first(0))
	tells(t, "nine ticks", ticks(n, 9, 0))
	is(t, "nine ticks", n, api.Follower, -1)
	tells(t, "ten ticks", ticks(n, 1, 0))
	is(t, "ten ticks", n, api.Leader, 0)
	hard(t, "ten ticks", n, 1, 0)
	has(t, "ten ticks", n, 1, noop(1))
	i, l, e := n.Propose("x")
	if i != 2 || len(l) != 0 || e != api.OK {
		t.Errorf("Propose: %d, %v, %v", i, l, e)
	}
	has(t, "Propose", n, 2, noop(1), api.Entry{Term: 1, Data: "x"})
}

// start is what New is given.
type start struct {
	me, term, vote int
	s              api.Shot
	l              []api.Entry
}

// usual is a beginning that may be, changed.
func usual(change func(a *start)) start {
	a := start{me: 3, term: 9, vote: 2, s: api.Shot{Index: 40, Term: 4, Members: []int{1, 3}, Data: "base"}, l: of(4, 5, 9)}
	change(&a)
	return a
}

// Promise 10.2: New of all that may be, at each of the bounds.
func TestNew(t *testing.T) {
	for i, a := range []start{
		usual(func(a *start) {}),
		usual(func(a *start) { a.me = 0 }), usual(func(a *start) { a.me = 6 }),
		usual(func(a *start) { a.term, a.l = 4, nil }), usual(func(a *start) { a.term = most }), usual(func(a *start) { a.term, a.s.Term, a.l = most, most, of(most) }),
		usual(func(a *start) { a.term, a.s.Term, a.l = 0, 0, nil }),
		usual(func(a *start) { a.vote = -1 }), usual(func(a *start) { a.vote = 0 }), usual(func(a *start) { a.vote = 6 }), usual(func(a *start) { a.vote = 3 }),
		usual(func(a *start) { a.s.Index = 0 }), usual(func(a *start) { a.s.Index = most }), usual(func(a *start) { a.s.Data = strings.Repeat("d", 131072) }), usual(func(a *start) { a.s.Members = []int{0, 1, 2, 3, 4, 5, 6} }),
		usual(func(a *start) { a.l = of(4, 4, 4) }), usual(func(a *start) { a.l = of(9, 9) }), usual(func(a *start) { a.l = nil }), usual(func(a *start) { a.l = []api.Entry{} }),
		usual(func(a *start) { a.l[0].Kind, a.l[1].Kind = 255, 0 }), usual(func(a *start) { a.l[2].Data = strings.Repeat("d", mostData) }),
		usual(func(a *start) { a.l = of(slices.Repeat([]int{7}, 100)...) }), // a log has more entries than a message
	} {
		what := fmt.Sprint("New ", i)
		n, e := raft.New(a.me, a.term, a.vote, a.s, a.l, 0)
		if e != api.OK || n == nil {
			t.Errorf("%s: %v", what, e)
			continue
		}
		is(t, what, n, api.Follower, -1)
		hard(t, what, n, a.term, a.vote)
		has(t, what, n, a.s.Index, a.l...)
		members(t, what, n, a.s.Members...)
		last, term := a.s.Index+len(a.l), a.s.Term
		if len(a.l) > 0 {
			term = a.l[len(a.l)-1].Term
		}
		if gotLast, gotTerm := n.Last(); gotLast != last || gotTerm != term {
			t.Errorf("%s: Last: %d, %d", what, gotLast, gotTerm)
		}
		if !sameShot(n.Base(), a.s) {
			t.Errorf("%s: Base", what)
		}
		for _, at := range []int{a.s.Index, a.s.Index - 1, last + 1, -1, math.MinInt, math.MaxInt} {
			if x, is := n.Entry(at); is || x != (api.Entry{}) {
				t.Errorf("%s: Entry %d: %v, %v", what, at, x, is)
			}
		}
		if s, is := n.Taken(); is || !sameShot(s, api.Shot{}) || n.Sure(a.term, 0) {
			t.Errorf("%s: Taken, Sure", what)
		}
	}
}

// Promise 10.2: New of what may not be.
func TestNewWrong(t *testing.T) {
	for i, a := range []start{
		usual(func(a *start) { a.me = -1 }), usual(func(a *start) { a.me = 7 }), usual(func(a *start) { a.me = math.MinInt }), usual(func(a *start) { a.me = math.MaxInt }),
		usual(func(a *start) { a.term, a.l = 3, nil }), usual(func(a *start) { a.term = most + 1 }), usual(func(a *start) { a.term, a.s.Term, a.l = -1, 0, nil }), usual(func(a *start) { a.term, a.s.Term, a.l = -1, -1, nil }), usual(func(a *start) { a.term = math.MaxInt }),
		usual(func(a *start) { a.vote = -2 }), usual(func(a *start) { a.vote = 7 }), usual(func(a *start) { a.vote = math.MinInt }), usual(func(a *start) { a.vote = math.MaxInt }),
		usual(func(a *start) { a.s.Index = -1 }), usual(func(a *start) { a.s.Index = most + 1 }), usual(func(a *start) { a.s.Term = -1 }), usual(func(a *start) { a.s.Members = nil }), usual(func(a *start) { a.s.Members = []int{3, 1} }), usual(func(a *start) { a.s.Members = []int{7} }),
		usual(func(a *start) { a.s.Data = strings.Repeat("d", 131073) }), usual(func(a *start) { a.s = api.Shot{} }),
		usual(func(a *start) { a.l = of(3) }), usual(func(a *start) { a.l = of(10) }), usual(func(a *start) { a.l = of(5, 4) }), usual(func(a *start) { a.l = of(4, 9, 10) }), usual(func(a *start) { a.l = of(4, math.MaxInt) }), usual(func(a *start) { a.l = of(-1) }),
		usual(func(a *start) { a.l[1].Kind = -1 }), usual(func(a *start) { a.l[2].Kind = 256 }), usual(func(a *start) { a.l[0].Data = strings.Repeat("d", mostData+1) }),
	} {
		if n, e := raft.New(a.me, a.term, a.vote, a.s, a.l, 0); n != nil || e != api.ErrArg {
			t.Errorf("New %d: %v, %v", i, n, e)
		}
	}
}

// Promise 10.2, and rule R1: a nil node, and one that no call made.
func TestNoNode(t *testing.T) {
	for _, n := range []*raft.Node{nil, {}} {
		for _, draw := range []int{0, 5, math.MinInt, math.MaxInt} {
			tells(t, "Tick", n.Tick(draw))
		}
		for _, m := range append(good(), bad()...) {
			tells(t, "Step", n.Step(m))
			m.To = 0
			tells(t, "Step", n.Step(m))
		}
		if i, l, e := n.Propose("x"); i != 0 || len(l) != 0 || e != api.ErrArg {
			t.Errorf("Propose: %d, %v, %v", i, l, e)
		}
		if _, _, e := n.Propose(strings.Repeat("d", mostData+1)); e != api.ErrArg {
			t.Errorf("Propose: %v", e)
		}
		if i, l, e := n.Change([]int{0}); i != 0 || len(l) != 0 || e != api.ErrArg {
			t.Errorf("Change: %d, %v, %v", i, l, e)
		}
		if round, i, l, e := n.Read(); round != 0 || i != 0 || len(l) != 0 || e != api.ErrArg {
			t.Errorf("Read: %d, %d, %v, %v", round, i, l, e)
		}
		if e := n.Compact(1, "x"); e != api.ErrArg {
			t.Errorf("Compact: %v", e)
		}
		if s, is := n.Taken(); is || !sameShot(s, api.Shot{}) || !sameShot(n.Base(), api.Shot{}) {
			t.Errorf("Taken, Base")
		}
		if a, b := n.Last(); a != 0 || b != 0 || n.Commit() != 0 || len(n.Members()) != 0 || n.Sure(0, 0) {
			t.Errorf("Last, Commit, Members, Sure")
		}
		for _, i := range []int{0, 1, -1, math.MinInt, math.MaxInt} {
			if x, is := n.Entry(i); is || x != (api.Entry{}) {
				t.Errorf("Entry: %v, %v", x, is)
			}
		}
		hard(t, "no node", n, 0, -1)
		is(t, "no node", n, api.Follower, -1)
	}
}

// Rule R3: what is handed in is not kept, and what is answered is of its own.
func TestNodeSharesNothing(t *testing.T) {
	s := api.Shot{Index: 2, Term: 1, Members: []int{0, 1}, Data: "base"}
	l := of(1, 1)
	want := slices.Clone(l)
	n := made(t, 0, 1, -1, s, l...)
	s.Members[1], l[0].Data, l[1].Term = 5, "changed", 0
	has(t, "New", n, 2, want...)
	members(t, "New", n, 0, 1)
	for range 2 {
		n.Members()[0] = 6
		n.Base().Members[1] = 6
		members(t, "Members, Base", n, 0, 1)
		if !slices.Equal(n.Base().Members, []int{0, 1}) {
			t.Errorf("Base: %v", n.Base().Members)
		}
	}
	told := leads(t, n)
	told[0].Entries[0].Data = "changed"
	data := string([]byte("my own"))
	_, told, _ = n.Propose(data)
	again := n.Step(no(1, 0, 2, 4, 0))
	if len(told) != 1 || len(again) != 1 || len(again[0].Entries) != 2 {
		t.Fatalf("told %s, then %s", brief(told), brief(again))
	}
	again[0].Entries[1].Data = "changed"
	has(t, "what is told", n, 2, append(want, noop(2), api.Entry{Term: 2, Data: "my own"})...)
	e, _ := n.Entry(6)
	if unsafe.StringData(e.Data) == unsafe.StringData(data) || unsafe.StringData(e.Data) == unsafe.StringData(told[0].Entries[0].Data) {
		t.Errorf("an entry's bytes are one memory with others")
	}
	m := entries(0, 1, 3, 0, 0, 0, 0, of(1, 2)...)
	other := made(t, 1, 0, -1, first(0, 1))
	other.Step(m)
	m.Entries[1].Data = "changed"
	has(t, "Step", other, 0, of(1, 2)...)
}

// Promise 10.2: messages that may not be, or are to another node, change nothing.
func TestPassedOver(t *testing.T) {
	for _, m := range append(good(), bad()...) {
		m.Term = max(m.Term, 50)
		n := made(t, 3, 9, 2, first(2, 3, 5), of(4, 5, 9)...)
		want := raft.Check(m) && m.To == 3
		got := n.Step(m)
		if len(got) > 0 || want {
			t.Errorf("a message to %d: told %s", m.To, brief(got))
		}
		hard(t, "a message to another one", n, 9, 2)
		has(t, "a message to another one", n, 0, of(4, 5, 9)...)
		tells(t, "nine ticks behind it", ticks(n, 9, 0))
		if len(n.Tick(0)) == 0 {
			t.Errorf("a message to another one made it wait anew")
		}
	}
	for _, m := range bad() {
		if m.To != 5 {
			continue
		}
		n := made(t, 5, 9, 2, first(2, 3, 5), of(4, 5, 9)...)
		tells(t, "a message that may not be", n.Step(m))
		hard(t, "a message that may not be", n, 9, 2)
		has(t, "a message that may not be", n, 0, of(4, 5, 9)...)
	}
}
