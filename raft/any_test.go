package raft_test

import (
	"fmt"
	"math"
	"math/rand"
	"strings"
	"testing"

	"stowage/api"
	"stowage/raft"
)

// drawn is a number of a kind that is drawn: a small one mostly, sometimes one at a bound or beyond.
func drawn(r *rand.Rand, small int) int {
	if r.Intn(40) == 0 {
		return []int{-1, most, most - 1, most + 1, math.MinInt, math.MaxInt}[r.Intn(6)]
	}
	return r.Intn(small)
}

// anyMsg is a message that is drawn; most of them may be.
func anyMsg(r *rand.Rand, term int) api.Msg {
	m := api.Msg{Kind: 1 + r.Intn(6), From: 1 + r.Intn(4), Term: term + r.Intn(3) - 1, Index: drawn(r, 12), LogTerm: drawn(r, 4), Commit: drawn(r, 12), Round: drawn(r, 5), At: drawn(r, 3) * 1024, Yes: r.Intn(2) == 0}
	m.LogTerm = min(m.LogTerm, m.Term)
	if r.Intn(30) == 0 {
		m.Term = drawn(r, 9)
	}
	ahead := m.LogTerm
	for range r.Intn(4) {
		e := api.Entry{Term: ahead + r.Intn(2), Kind: r.Intn(3), Data: fmt.Sprint(r.Intn(9))}
		if e.Kind == api.EntryConf && r.Intn(4) > 0 {
			e.Data = []string{"\x01\x00", "\x02\x00\x01", "\x03\x00\x01\x02", "\x02\x01\x02", "\x01\x03"}[r.Intn(5)]
		}
		ahead = e.Term
		m.Entries = append(m.Entries, e)
	}
	if m.Kind == api.MsgShot {
		m.Data = strings.Repeat("\x05", r.Intn(30))
		if r.Intn(2) == 0 {
			m.At, m.Yes = 0, true
			m.Data = fmt.Sprintf("%c%c\x02\x00\x01\x01x", rune(m.Index&127), rune(m.LogTerm&127))
		}
	}
	return m
}

// Rules R1 and R2: whatever comes and is asked, no call panics, all that is told may be, and what is committed stays.
func TestAnyMessages(t *testing.T) {
	roles := [3]int{}
	taken := 0
	for seed := range 300 {
		r := rand.New(rand.NewSource(int64(seed)))
		n := made(t, 0, 2, -1, api.Shot{Index: 1, Term: 1, Members: []int{0, 1, 2}[:1+seed%3]}, of(1, 1, 2)...)
		kept := map[int]api.Entry{}
		commit := 1
		for step := range 400 {
			var l []api.Msg
			var e api.Errno
			before := entriesOf(n)
			term, _ := n.Hard()
			switch r.Intn(12) {
			case 0, 1, 2:
				l = ticks(n, 1+r.Intn(5), drawn(r, 9))
			case 3:
				_, l, e = n.Propose(strings.Repeat("p", drawn(r, 70000)&0x1ffff))
			case 4:
				_, l, e = n.Change([][]int{nil, {0}, {0, 1}, {0, 1, 2}, {1, 2}, {0, 3}, {7}}[r.Intn(7)])
			case 5:
				_, _, l, e = n.Read()
			case 6:
				e = n.Compact(drawn(r, 9), "data")
			case 7:
				n.Sure(drawn(r, 9), drawn(r, 9))
				n.Entry(drawn(r, 9))
			default:
				l = n.Step(anyMsg(r, term))
			}
			for _, m := range l {
				if !raft.Check(m) || m.From != 0 {
					t.Fatalf("seed %d, step %d: told %v", seed, step, m)
				}
			}
			if e != api.OK {
				has(t, fmt.Sprintf("seed %d, step %d: an error", seed, step), n, commit, before...)
			}
			if after, _ := n.Hard(); after < term || n.Commit() < commit {
				t.Fatalf("seed %d, step %d: the term falls from %d to %d, or what is committed from %d to %d", seed, step, term, after, commit, n.Commit())
			}
			commit = n.Commit()
			if s, is := n.Taken(); is {
				taken++
				if s.Index > commit {
					t.Fatalf("seed %d, step %d: a snapshot of %d, committed %d", seed, step, s.Index, commit)
				}
			}
			for at := n.Base().Index + 1; at <= commit; at++ {
				now, is := n.Entry(at)
				if was, there := kept[at]; !is || there && was != now {
					t.Fatalf("seed %d, step %d: %v stood at %d, and %v does", seed, step, was, at, now)
				}
				kept[at] = now
			}
			roles[n.Role()]++
		}
	}
	if roles[0] < 1000 || roles[1] < 1000 || roles[2] < 1000 || taken < 20 {
		t.Errorf("too little happened: %v, %d snapshots", roles, taken)
	}
}
