package raft_test

import (
	"fmt"
	"math/rand"
	"slices"
	"strings"
	"testing"

	"stowage/api"
	"stowage/raft"
	"stowage/shot"
)

// pieces are a snapshot as a leader's messages.
func pieces(t *testing.T, from, to, term int, s api.Shot) []api.Msg {
	t.Helper()
	text, e := shot.Encode(s)
	if e != api.OK {
		t.Fatalf("Encode: %v", e)
	}
	var l []api.Msg
	for at := 0; at < len(text); at += 1024 {
		end := min(at+1024, len(text))
		l = append(l, api.Msg{Kind: api.MsgShot, From: from, To: to, Term: term, Index: s.Index, LogTerm: s.Term, At: at, Yes: end == len(text), Data: text[at:end]})
	}
	return l
}

// wants is an answer to a piece: which place is wanted next.
func wants(from, to, term, at int) api.Msg {
	return api.Msg{Kind: api.MsgShotted, From: from, To: to, Term: term, At: at}
}

// whole is the answer to the last piece.
func whole(from, to, term int) api.Msg {
	return api.Msg{Kind: api.MsgShotted, From: from, To: to, Term: term, Yes: true}
}

// takesNone asks that no snapshot came.
func takesNone(t *testing.T, what string, n *raft.Node) {
	t.Helper()
	if s, is := n.Taken(); is || !sameShot(s, api.Shot{}) {
		t.Errorf("%s: Taken: %d, %v", what, s.Index, is)
	}
}

// takes asks that a snapshot came, and is told once.
func takes(t *testing.T, what string, n *raft.Node, want api.Shot) {
	t.Helper()
	if s, is := n.Taken(); !is || !sameShot(s, want) {
		t.Errorf("%s: Taken: %d, %v", what, s.Index, is)
	}
	takesNone(t, what, n)
}

// What nodes do: a snapshot in pieces, in order.
func TestPieces(t *testing.T) {
	s := shotOf(9, 3, 2500, 0, 1, 4)
	l := pieces(t, 2, 1, 5, s)
	n := made(t, 1, 4, -1, first(0, 1, 2), of(2, 2)...)
	tells(t, "the first piece", n.Step(l[0]), wants(1, 2, 5, 1024))
	tells(t, "the second piece", n.Step(l[1]), wants(1, 2, 5, 2048))
	is(t, "two pieces", n, api.Follower, 2)
	hard(t, "two pieces", n, 5, -1)
	has(t, "two pieces", n, 0, of(2, 2)...)
	takesNone(t, "two pieces", n)
	tells(t, "the last piece", n.Step(l[2]), whole(1, 2, 5))
	has(t, "the last piece", n, 9)
	if !sameShot(n.Base(), s) {
		t.Errorf("Base: %v", n.Base())
	}
	if last, term := n.Last(); last != 9 || term != 3 {
		t.Errorf("Last: %d, %d", last, term)
	}
	members(t, "the last piece", n, 0, 1, 4)
	takes(t, "the last piece", n, s)
	for _, m := range l {
		tells(t, "a piece of what is there", n.Step(m), whole(1, 2, 5))
	}
	takesNone(t, "a piece of what is there", n)
	tells(t, "entries behind it", n.Step(entries(2, 1, 5, 9, 3, 10, 1, of(4)...)), yes(1, 2, 5, 10, 1))
	has(t, "entries behind it", n, 10, of(4)...)
}

// What nodes do: pieces again and out of order are answered by the place that is wanted; with that at 0 it begins anew.
func TestPiecesInDisorder(t *testing.T) {
	s := shotOf(9, 3, 4000, 0, 1, 4)
	l := pieces(t, 2, 1, 5, s)
	n := made(t, 1, 5, -1, first(0, 1, 2))
	at := func(place int) api.Msg { return wants(1, 2, 5, place) }
	tells(t, "the second one first", n.Step(l[1]), at(0))
	tells(t, "the last one first", n.Step(l[3]), at(0))
	tells(t, "the first one", n.Step(l[0]), at(1024))
	tells(t, "the third one", n.Step(l[2]), at(1024))
	tells(t, "the last one", n.Step(l[3]), at(1024))
	tells(t, "the second one", n.Step(l[1]), at(2048))
	tells(t, "the second one again", n.Step(l[1]), at(2048))
	tells(t, "the first one again", n.Step(l[0]), at(1024))
	tells(t, "the third one behind it", n.Step(l[2]), at(1024))
	other := pieces(t, 2, 1, 5, shotOf(8, 3, 4000, 0, 1, 4))
	tells(t, "another one's second", n.Step(other[1]), at(0))
	tells(t, "the second one", n.Step(l[1]), at(2048))
	tells(t, "another one's first", n.Step(other[0]), at(1024))
	tells(t, "the third one behind it", n.Step(l[2]), at(0))
	has(t, "nothing whole", n, 0)
	takesNone(t, "nothing whole", n)
	for i, m := range l[:3] {
		tells(t, "in order", n.Step(m), at(1024*(i+1)))
	}
	tells(t, "in order", n.Step(l[3]), whole(1, 2, 5))
	takes(t, "in order", n, s)
	// A round is answered as it came.
	n = made(t, 1, 5, -1, first(0, 1, 2))
	l[0].Round, l[3].Round = 7, 8
	told := n.Step(l[0])
	if len(told) != 1 || told[0].Round != 7 {
		t.Errorf("a round: %s", brief(told))
	}
}

// What nodes do: bytes that are no snapshot of that index and term do not become the base.
func TestPiecesOfNothing(t *testing.T) {
	s := shotOf(9, 3, 100, 0, 1, 4)
	good := pieces(t, 2, 1, 5, s)[0]
	for i, change := range []func(m *api.Msg){
		func(m *api.Msg) { m.Data = m.Data[1:] }, func(m *api.Msg) { m.Data += "x" }, func(m *api.Msg) { m.Data = "" }, func(m *api.Msg) { m.Index = 10 }, func(m *api.Msg) { m.LogTerm = 4 }, func(m *api.Msg) { m.Data = m.Data[:50] },
	} {
		m := good
		change(&m)
		n := made(t, 1, 5, -1, first(0, 1, 2), of(1)...)
		tells(t, fmt.Sprint("no snapshot ", i), n.Step(m), wants(1, 2, 5, 0))
		has(t, fmt.Sprint("no snapshot ", i), n, 0, of(1)...)
		takesNone(t, fmt.Sprint("no snapshot ", i), n)
		tells(t, "a snapshot", n.Step(good), whole(1, 2, 5))
		takes(t, "a snapshot", n, s)
	}
}

// What nodes do: entries behind a snapshot stay, if the log has its entry of its term; else all go.
func TestBehindSnapshot(t *testing.T) {
	base := api.Shot{Index: 5, Term: 1, Members: []int{0, 1, 2}}
	log := []api.Entry{{Term: 1}, {Term: 2}, says(3, 0, 1), {Term: 3, Data: "four"}, {Term: 4, Data: "five"}} // 6 to 10
	for index := 6; index <= 12; index++ {
		for term := 1; term <= 5; term++ {
			n := made(t, 1, 5, -1, base, log...)
			s := shotOf(index, term, 50, 0, 1, 2, 6)
			what := fmt.Sprintf("a snapshot of %d, %d", index, term)
			tells(t, what, n.Step(pieces(t, 2, 1, 5, s)[0]), whole(1, 2, 5))
			var want []api.Entry
			if index <= 10 && log[index-6].Term == term {
				want = log[index-5:]
			}
			has(t, what, n, index, want...)
			takes(t, what, n, s)
			if want != nil && index < 8 {
				members(t, what, n, 0, 1)
			} else {
				members(t, what, n, 0, 1, 2, 6)
			}
		}
	}
	// One whose index is committed is passed by, whatever its term.
	n := made(t, 1, 5, -1, base, log...)
	n.Step(entries(2, 1, 5, 10, 4, 8, 0))
	for index := 0; index <= 8; index++ {
		tells(t, "what is committed", n.Step(pieces(t, 2, 1, 5, shotOf(index, 5, 50, 0))[0]), whole(1, 2, 5))
		has(t, "what is committed", n, 8, log...)
		takesNone(t, "what is committed", n)
	}
}

// Promise 10.2: Taken tells the last one that came, also behind Compact.
func TestTaken(t *testing.T) {
	n := made(t, 1, 5, -1, first(0, 1, 2))
	one, two := shotOf(3, 1, 10, 0, 1), shotOf(6, 2, 10, 0, 1, 2)
	n.Step(pieces(t, 2, 1, 5, one)[0])
	n.Step(pieces(t, 2, 1, 5, two)[0])
	takes(t, "two snapshots", n, two)
	n.Step(pieces(t, 2, 1, 5, shotOf(7, 2, 10, 0, 1, 2))[0])
	n.Step(entries(2, 1, 5, 7, 2, 9, 0, of(3, 3)...))
	if e := n.Compact(9, "mine"); e != api.OK {
		t.Errorf("Compact: %v", e)
	}
	s, _ := n.Taken()
	if s.Index != 7 {
		t.Errorf("Taken behind Compact: %d", s.Index)
	}
	s.Members[0] = 6
	n.Step(pieces(t, 2, 1, 5, shotOf(12, 3, 10, 0, 1, 2))[0])
	s, _ = n.Taken()
	s.Members[0] = 6
	members(t, "Taken", n, 0, 1, 2)
}

// told lets a leader's messages and a node's answers come until there are no more, and tells all.
func told(t *testing.T, a, b *raft.Node, way []api.Msg) []api.Msg {
	t.Helper()
	var all []api.Msg
	for len(way) > 0 {
		m := way[0]
		all = append(all, m)
		if len(all) > 1000 {
			t.Fatalf("it does not end")
		}
		if m.To == 0 {
			way = append(way[1:], a.Step(m)...)
		} else {
			way = append(way[1:], b.Step(m)...)
		}
	}
	return all
}

// far is a leader whose log begins behind a snapshot of so many bytes, and one that has nothing.
func far(t *testing.T, bytes int) (*raft.Node, *raft.Node) {
	t.Helper()
	s := shotOf(20, 3, bytes, 0, 1)
	return made(t, 0, 3, -1, s, of(3, 3)...), made(t, 1, 0, -1, first(0, 1))
}

// What nodes do: a leader tells its snapshot by pieces, where its log does not have what is lacking.
func TestTellsSnapshot(t *testing.T) {
	for _, bytes := range []int{0, 10, 1000, 1016, 1017, 1018, 1024, 2047, 2048, 5000, 131072} {
		a, b := far(t, bytes)
		s := a.Base()
		want := pieces(t, 0, 1, 4, s)
		all := told(t, a, b, leads(t, a))
		var got []api.Msg
		for _, m := range all {
			if m.Kind == api.MsgShot {
				got = append(got, m)
			}
		}
		what := fmt.Sprint(bytes, " bytes")
		tells(t, what, got, want...)
		if !sameShot(b.Base(), s) {
			t.Errorf("%s: Base", what)
		}
		has(t, what, b, 23, append(of(3, 3), noop(4))...)
		has(t, what, a, 23, append(of(3, 3), noop(4))...)
		takes(t, what, b, s)
	}
}

// What nodes do: a lost piece is told again with the next beat; a place that is wanted is gone to.
func TestPiecesAreLost(t *testing.T) {
	a, b := far(t, 5000)
	leads(t, a)
	want := pieces(t, 0, 1, 4, a.Base())
	tells(t, "nothing there", a.Step(no(1, 0, 4, 0, 0)), want[0])
	tells(t, "the second piece", a.Step(wants(1, 0, 4, 1024)), want[1])
	tells(t, "the third piece", a.Step(wants(1, 0, 4, 2048)), want[2])
	beat := want[2]
	beat.Round = 1
	tells(t, "a beat", ticks(a, 3, 0), beat)
	back := want[1]
	back.Round = 1
	tells(t, "the second piece again", a.Step(wants(1, 0, 4, 1024)), back)
	back = want[0]
	back.Round = 1
	for _, place := range []int{0, 5007, 5008, most} {
		tells(t, fmt.Sprint("the place ", place), a.Step(wants(1, 0, 4, place)), back)
	}
	for _, m := range []api.Msg{wants(1, 0, 3, 1024), wants(2, 0, 4, 1024)} {
		tells(t, "no answer to it", a.Step(m))
	}
	told(t, a, b, ticks(a, 3, 0))
	has(t, "all came", b, 23, append(of(3, 3), noop(4))...)
	if a.Commit() != 23 || a.Compact(22, strings.Repeat("x", 3000)) != api.OK {
		t.Fatalf("Compact: %d", a.Commit())
	}
	// With another snapshot it begins anew.
	again := made(t, 1, 4, -1, first(0, 1))
	got := a.Step(no(1, 0, 4, 0, 0))
	if len(got) != 1 || got[0].Kind != api.MsgShot || got[0].Index != 22 || got[0].LogTerm != 3 || got[0].At != 0 {
		t.Errorf("another snapshot: %s", brief(got))
	}
	told(t, a, again, got)
	has(t, "another snapshot", again, 23, noop(4))
}

// What nodes do: a leader that compacts while one takes its snapshot begins anew with the new one.
func TestCompactsWithin(t *testing.T) {
	n := made(t, 0, 3, -1, shotOf(20, 3, 5000, 0, 1, 2), of(3, 3)...)
	leads(t, n)
	n.Step(no(1, 0, 4, 0, 0))
	n.Step(wants(1, 0, 4, 1024))
	n.Step(yes(2, 0, 4, 23, 0))
	if e := n.Compact(23, strings.Repeat("later ", 500)); e != api.OK {
		t.Fatalf("Compact: %v", e)
	}
	want := pieces(t, 0, 1, 4, n.Base())
	want[0].Round = 1
	tells(t, "a beat", ticks(n, 3, 0), want[0], entries(0, 2, 4, 23, 4, 23, 1))
	b := made(t, 1, 4, -1, first(0, 1, 2))
	told(t, n, b, []api.Msg{want[0]})
	if !sameShot(b.Base(), n.Base()) {
		t.Errorf("Base: %d", b.Base().Index)
	}
}

// What nodes do: a Yes of late, to a snapshot that was, does not make a leader believe that a node has this one.
func TestLateYes(t *testing.T) {
	a, b := far(t, 2000)
	leads(t, a)
	late := whole(1, 0, 4)
	told(t, a, b, a.Step(no(1, 0, 4, 0, 0)))
	if e := a.Compact(23, "later"); e != api.OK {
		t.Fatalf("Compact: %v", e)
	}
	i, _, _ := a.Propose("more")
	empty := made(t, 1, 4, -1, first(0, 1))
	told(t, a, empty, a.Step(late))
	if x, is := empty.Entry(i); !is || x.Data != "more" || empty.Commit() != i {
		t.Errorf("behind a late Yes: %v, %v, committed %d", x, is, empty.Commit())
	}
}

// Promises 7.4 and 10.4: pieces that are lost and doubled at random give the snapshot all the same.
func TestAnyPieces(t *testing.T) {
	for seed := range 60 {
		r := rand.New(rand.NewSource(int64(seed)))
		a, b := far(t, 1000+r.Intn(5000))
		way := leads(t, a)
		for step := 0; b.Commit() < 23; step++ {
			if step > 20000 {
				t.Fatalf("seed %d: it does not come to an end: %d", seed, b.Commit())
			}
			if len(way) == 0 {
				way = a.Tick(0)
				if a.Role() != api.Leader {
					way = leads(t, a)
				}
				continue
			}
			at := r.Intn(min(len(way), 2))
			m := way[at]
			switch r.Intn(12) {
			case 0:
				way = slices.Delete(way, at, at+1)
			case 1:
				way = append(way, m)
			default:
				way = slices.Delete(way, at, at+1)
				if m.To == 0 {
					way = append(way, a.Step(m)...)
				} else {
					way = append(way, b.Step(m)...)
				}
			}
			if len(way) > 50 {
				way = way[:10]
			}
		}
		if !sameShot(b.Base(), a.Base()) {
			t.Errorf("seed %d: another base", seed)
		}
	}
}
