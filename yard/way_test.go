package yard_test

import (
	"strings"
	"testing"

	"stowage/api"
)

// Words: what is to nodes that are down is lost; what is told again comes when they are up.
func TestToNodesThatAreDown(t *testing.T) {
	s := led(t, 3)
	s.does(down(1), down(2), send(0, 0, req("PUT", "/two")), send(0, 1, req("PUT", "/one/k", "hi")), tick(5))
	s.goes(0, 0, "")
	s.does(up(1), tick(5))
	s.goes(0, 0, says(200, "", ""))
	s.goes(0, 1, "") // nobody else was told to keep the extent
	s.does(tick(60))
	s.goes(0, 1, wrong(503, "", api.ErrBusy))
	s.same(0, 1)
	s.does(up(2), tick(5))
	s.same(0, 1, 2)
}

// Words: what is to nodes that are cut off is lost, and what they send.
func TestCutOff(t *testing.T) {
	s := led(t, 3)
	s.does(cut(1), cut(2), send(0, 0, req("PUT", "/two")), tick(5))
	s.goes(0, 0, "")
	if !s.Up(1) || !s.Open(1, 0) || s.Save(1) == s.Save(0)+"x" {
		t.Errorf("a node that is cut off is not up")
	}
	s.asks(1, req("GET", "/"), wrong(307, "", api.ErrLeader, "x-leader: 0")) // clients reach it
	s.does(join(2), tick(5))
	s.goes(0, 0, says(200, "", ""))
	s.same(0, 2)
	if s.Save(1) == s.Save(0) {
		t.Errorf("something came to a node that is cut off")
	}
	s.does(join(1), tick(30))
	s.same(0, 1, 2)
}

// Words: a node is cut off by 1, and joined by anything else, however often.
func TestCutTwice(t *testing.T) {
	for _, n := range []int{0, 2, -1, 1 << 40} {
		s := led(t, 2)
		s.does(cut(1), cut(1), send(0, 0, req("PUT", "/two")), tick(3))
		s.goes(0, 0, "")
		again := join(1)
		again.N = n
		s.does(again, tick(4))
		s.goes(0, 0, says(200, "", ""))
		s.does(again, again, send(0, 0, req("PUT", "/three")))
		s.goes(0, 0, says(200, "", ""))
		// One that is cut off while it is down is so when it is up.
		s.does(down(1), cut(1), up(1), send(0, 0, req("PUT", "/four")), tick(3))
		s.goes(0, 0, "")
		s.does(again, tick(60))
		s.does(down(1), up(1), tick(60))
		s.goesOn("joined again", 2)
	}
}

// Words: the one that sends is cut off, too: both ways are lost.
func TestLeaderCutOff(t *testing.T) {
	for nodes := 3; nodes <= 5; nodes += 2 {
		s := led(t, nodes)
		for turn := range 6 {
			old := s.Leader()
			s.does(cut(old), send(old, 0, req("PUT", "/lost")))
			both := false // whether two led at one time
			for ticks := 0; s.Leader() == old; ticks++ {
				if ticks > 60 {
					t.Fatalf("of %d: nobody leads in the place of %d", nodes, old)
				}
				s.does(tick(1))
			}
			k := s.Leader()
			if k < 0 {
				s.does(tick(60))
				k = s.Leader()
			} else if s.Gate(old).Node().Raft().Role() == api.Leader {
				both = true
			}
			if !both && turn == 0 {
				t.Errorf("of %d: the old one does not lead any more", nodes)
			}
			s.goes(old, 0, "")
			s.does(send(k, 0, req("GET", "/one/none")))
			s.goes(k, 0, wrong(404, "", api.ErrKey))
			s.does(join(old), tick(70))
			s.goes(old, 0, wrong(503, "", api.ErrBusy))
			for i := range nodes {
				if s.Save(i) != s.Save(k) {
					t.Errorf("of %d: %d has another machine", nodes, i)
				}
			}
			if strings.Contains(s.Save(k), "lost") {
				t.Errorf("of %d: what was lost is there", nodes)
			}
		}
	}
}

// Promise 24.1: of two that lead the one of the greater term is told, whichever number it has; of one that is down nothing.
func TestTwoLeaders(t *testing.T) {
	var seen [2]int
	s := led(t, 3)
	for range 8 {
		old := s.Leader()
		s.does(cut(old))
		for s.Leader() == old {
			s.does(tick(1))
		}
		k := s.Leader()
		if k >= 0 && s.Gate(old).Node().Raft().Role() == api.Leader {
			mine, _ := s.Gate(k).Node().Raft().Hard()
			other, _ := s.Gate(old).Node().Raft().Hard()
			if mine <= other {
				t.Errorf("%d leads in %d, %d in %d", k, mine, old, other)
			}
			if old < k {
				seen[0]++
			} else {
				seen[1]++
			}
			s.does(down(k))
			s.leads(old)
			s.does(up(k))
			s.leads(old)
		}
		s.does(join(old), tick(70))
	}
	if seen[0] == 0 || seen[1] == 0 {
		t.Errorf("two led at one time %v times", seen)
	}
}

// lags is a yard whose node 2 gets a long snapshot, of which it does not have all yet.
func lags(t *testing.T) *scene {
	t.Helper()
	s := newScene(t, 3)
	s.does(filling(2, 120)...)
	s.does(tick(3)) // the leader tells it something within these
	s.leads(0)
	if s.Save(2) == s.Save(0) {
		t.Fatalf("the snapshot has come at once")
	}
	return s
}

// Words: what is under way comes up to 50 times: the rest is under way still, and comes behind the next ticks, or bytes.
func TestRounds(t *testing.T) {
	for _, a := range []api.Act{tick(1), send(1, 0, "")} {
		s := lags(t)
		n := 1
		for ; s.Save(2) != s.Save(0); n++ {
			s.does(a)
			if n > 100 {
				t.Fatalf("the snapshot does not come")
			}
		}
		// Each piece of some 1024 bytes, and its answer, is two rounds; from one to three times 50 of them have been.
		if least := 2 * (len(s.Save(0)) / 1024) / 50; n+3 < least || n > least+1 {
			t.Errorf("the snapshot of %d bytes came by %d acts", len(s.Save(0)), n)
		}
	}
}

// Words: it is just 50 times, whatever of a snapshot is left then.
func TestRoundsJust(t *testing.T) {
	for keys := 50; keys < 66; keys++ {
		for _, a := range []api.Act{tick(1), send(1, 0, "")} {
			s, p := newScene(t, 3), newPlain(3)
			for _, a := range append(append(filling(2, keys), tick(1), tick(1), tick(1)), a, a, a, a) {
				s.does(a)
				p.do(a)
				if s.tells(3) != p.tells() {
					t.Fatalf("%d keys: behind %s:\n%s\nnot\n%s", keys, short(a), s.tells(3), p.tells())
				}
			}
		}
	}
}

// Rule R2: where an act is refused nothing comes; nor does by acts behind which nothing is to come.
func TestNothingComes(t *testing.T) {
	s := lags(t)
	s.does(send(1, 1, "x\r\n\r\n"))
	was := s.Save(2)
	for range 50 {
		s.refuses(send(1, 1, "x"), api.ErrShut)
		s.refuses(send(1, 8, "x"), api.ErrArg)
		s.refuses(up(1), api.ErrArg)
		s.refuses(tick(0), api.ErrArg)
		s.does(shut(1, 2), room(1, -1), join(1))
	}
	if s.Save(2) != was {
		t.Errorf("something came")
	}
	for range 20 {
		s.does(send(1, 0, ""))
	}
	s.same(0, 1, 2)
	// What is under way from and to a node that is down is lost, but is told again when ticks pass.
	s = lags(t)
	s.does(down(2), send(1, 0, ""), up(2))
	for range 20 {
		s.does(send(1, 0, ""))
	}
	if s.Save(2) == s.Save(0) {
		t.Errorf("what was lost came")
	}
	s.does(tick(20))
	s.same(0, 1, 2)
}

// Words: a node whose disk goes down within a step is down: a leader's, by bytes and by a tick, and a follower's, by a message and by a note.
func TestDiskGoesDown(t *testing.T) {
	for at := range 6 {
		s := led(t, 3)
		s.does(send(0, 1, req("GET", "/")))
		s.Plan(0, api.Fall{At: at, Keep: 1, Torn: 3})
		s.does(send(0, 0, req("PUT", "/one/k", "hi")))
		if at < 3 {
			s.isUp(0, false)
			s.leads(-1)
			s.goes(0, 0, "")
			s.goes(0, 1, "")
			s.refuses(send(0, 0, "x"), api.ErrDown)
			s.refuses(down(0), api.ErrDown)
			s.does(tick(60), up(0), tick(5))
		}
		for i := 1; i < 3; i++ {
			s = led(t, 3)
			s.Plan(i, api.Fall{At: at, Keep: 1, Torn: 3})
			s.asks(0, req("PUT", "/one/k", "hi"), put(3, "hi"))
			s.isUp(i, at >= 3)
			s.isUp(3-i, true)
			s.leads(0)
			s.asks(0, req("GET", "/one/k"), got(3, "hi"))
			if at < 3 {
				s.does(up(i))
			}
			s.does(tick(5))
			s.same(0, 1, 2)
		}
	}
	// By a tick: when nobody leads a node stands for the lead, and lays its vote.
	s := newScene(t, 1)
	s.Plan(0, api.Fall{})
	s.does(tick(60))
	s.isUp(0, false)
	s.does(up(0), tick(60))
	s.goesOn("up again", 1)
	// By standing up, when there is something to mend: the act tells it, and the node stays down.
	for _, file := range []string{"snap.new", "hard.new", "e.new"} {
		s = led(t, 3)
		s.Disk(2).Append(file, "x")
		s.Disk(2).Sync()
		s.does(down(2))
		s.Plan(2, api.Fall{})
		s.refuses(up(2), api.ErrDown)
		s.isUp(2, false)
		s.does(tick(1), up(2), tick(5))
		s.same(0, 1, 2)
	}
}

// Promise 24.1: a disk that has something else than what a node laid there: the act tells it, and the node stays down.
func TestCorrupt(t *testing.T) {
	for _, file := range []string{"hard", "snap"} {
		s := led(t, 3)
		s.Disk(2).Write(file, "x")
		s.Disk(2).Sync()
		s.does(down(2))
		for range 2 {
			s.refuses(up(2), api.ErrCorrupt)
			s.isUp(2, false)
			s.does(tick(1))
		}
		s.goesOn("without the node 2", 3)
	}
}

// Words: members that are not in the yard: what is to them is lost.
func TestMembersElsewhere(t *testing.T) {
	s := led(t, 3)
	s.asks(0, req("PUT", "/_nodes/6"), says(200, "", ""))
	s.asks(0, req("PUT", "/one/k", "hi"), put(4, "hi"))
	s.asks(0, req("GET", "/one/k"), got(4, "hi"))
	s.does(tick(100))
	s.asks(0, req("DELETE", "/_nodes/6"), says(200, "", ""))
	s.asks(0, req("PUT", "/_nodes/1"), wrong(409, "", api.ErrThere))
	s.asks(0, req("DELETE", "/_nodes/0"), says(200, "", ""))
	s.does(tick(60))
	if k := s.Leader(); k < 1 {
		t.Errorf("Leader: %d", k)
	}
	s.goesOn("two members", 3)
}
