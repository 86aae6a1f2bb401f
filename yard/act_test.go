package yard_test

import (
	"math"
	"testing"

	"stowage/api"
	"stowage/meta"
	"stowage/yard"
)

// far are numbers of which none is a node's of a yard of three, or a connection's.
var far = []int{math.MinInt, -2, -1, 8, 9, 1000, math.MaxInt}

// Promise 24.1: how many nodes a yard may have, and what a new one is.
func TestNew(t *testing.T) {
	for _, n := range []int{math.MinInt, -1, 0, api.MaxNodes + 1, 1000, math.MaxInt} {
		if y, e := yard.New(n); y != nil || e != api.ErrArg {
			t.Errorf("New(%d): %v", n, e)
		}
	}
	for n := 1; n <= api.MaxNodes; n++ {
		s := newScene(t, n)
		s.leads(-1)
		for i := range n {
			s.isUp(i, true)
			if s.Save(i) != meta.New().Save() {
				t.Errorf("of %d: the machine of %d is no new one", n, i)
			}
			for conn := range api.MaxConns {
				if !s.Open(i, conn) || s.Out(i, conn) != "" {
					t.Errorf("of %d: the connection %d of %d is not new", n, conn, i)
				}
			}
		}
		s.isUp(n, false)
		s.does(tick(60))
		s.goesOn("a new yard", n)
	}
}

// Promise 24.1: a nil yard, and one that no call made.
func TestNone(t *testing.T) {
	for _, y := range []*yard.Yard{nil, {}} {
		for kind := -1; kind <= 7; kind++ {
			for _, n := range []int{-1, 0, 1} {
				if e := y.Do(api.Act{Kind: kind, N: n, Text: "GET / HTTP/1.1\r\n\r\n"}); e != api.ErrArg {
					t.Errorf("Do of %d, %d: %v", kind, n, e)
				}
			}
		}
		for _, i := range append([]int{0, 1}, far...) {
			if y.Out(i, 0) != "" || y.Open(i, 0) || y.Up(i) || y.Save(i) != "" {
				t.Errorf("%d has something", i)
			}
		}
		if y.Leader() != -1 {
			t.Errorf("Leader: %d", y.Leader())
		}
	}
}

// Words: a Node that is not there; Kinds that are none.
func TestNobody(t *testing.T) {
	s := led(t, 3)
	before := s.tells(3)
	for _, i := range append([]int{3, 7}, far...) {
		for kind := api.ActBytes; kind <= api.ActRoom; kind++ {
			for _, n := range []int{-1, 0, 1} {
				s.refuses(api.Act{Kind: kind, Node: i, N: n, Text: req("PUT", "/two")}, api.ErrArg)
			}
		}
		if s.Out(i, 0) != "" || s.Open(i, 0) || s.Up(i) || s.Save(i) != "" {
			t.Errorf("%d has something", i)
		}
	}
	for _, kind := range []int{math.MinInt, -1, 7, 8, math.MaxInt} {
		for _, i := range []int{-1, 0, 2, 3} {
			s.refuses(api.Act{Kind: kind, Node: i, N: 1, Text: "x"}, api.ErrArg)
		}
	}
	if s.tells(3) != before {
		t.Errorf("what was refused changed something")
	}
}

// Words: ActTick has 1 to 1000 ticks, whatever its Node is.
func TestTicks(t *testing.T) {
	s := newScene(t, 1)
	for _, n := range []int{math.MinInt, -1, 0, 1001, math.MaxInt} {
		s.refuses(tick(n), api.ErrArg)
	}
	s.leads(-1)
	for _, i := range append([]int{0, 3}, far...) {
		s.does(api.Act{Kind: api.ActTick, Node: i, Conn: i, N: 1, M: i, Text: "x"})
	}
	s.does(tick(1000), tick(1000))
	s.leads(0)
}

// Words: so many ticks at once are as one behind the other.
func TestTicksOneByOne(t *testing.T) {
	for _, n := range []int{2, 11, 37, 200} {
		for nodes := 1; nodes <= 5; nodes++ {
			one, many := newScene(t, nodes), newScene(t, nodes)
			for range 3 {
				one.does(tick(n))
				for range n {
					many.does(tick(1))
				}
				if one.tells(nodes) != many.tells(nodes) {
					t.Errorf("%d ticks of %d nodes at once are others", n, nodes)
				}
				for i := range nodes {
					one.does(send(i, 0, req("PUT", "/one")))
					many.does(send(i, 0, req("PUT", "/one")))
					many.goes(i, 0, one.Out(i, 0))
				}
			}
		}
	}
}

// Words: acts at a node that is down.
func TestDown(t *testing.T) {
	s := led(t, 3)
	s.does(send(2, 0, "GET / HTTP/1.1\r\n\r\n"), send(2, 1, "GET "), api.Act{Kind: api.ActDown, Node: 2, N: math.MaxInt, M: math.MinInt})
	s.isUp(2, false)
	for _, conn := range append([]int{0, 1, 7}, far...) {
		if s.Out(2, conn) != "" || s.Open(2, conn) {
			t.Errorf("a node that is down has the connection %d", conn)
		}
		s.refuses(send(2, conn, "x"), api.ErrDown)
		s.refuses(shut(2, conn), api.ErrDown)
	}
	if s.Save(2) != "" {
		t.Errorf("a node that is down has a machine")
	}
	s.refuses(down(2), api.ErrDown)
	s.does(up(2))
	s.isUp(2, true)
	s.goes(2, 0, "") // what it had to say is gone
	for conn := range api.MaxConns {
		if !s.Open(2, conn) {
			t.Errorf("the connection %d is not anew", conn)
		}
	}
	s.asks(2, req("GET", "/"), wrong(307, "", api.ErrLeader)) // it knows nobody that leads
	s.does(tick(5))
	s.same(0, 1, 2)
	s.asks(2, req("GET", "/"), wrong(307, "", api.ErrLeader, "x-leader: 0"))
}

// Words: connections that are none, or shut.
func TestConnections(t *testing.T) {
	s := led(t, 3)
	for _, conn := range far {
		s.refuses(send(0, conn, "x"), api.ErrArg)
		s.refuses(shut(0, conn), api.ErrArg)
		if s.Out(0, conn) != "" || s.Open(0, conn) {
			t.Errorf("there is a connection %d", conn)
		}
	}
	for conn := range api.MaxConns {
		s.does(send(0, conn, req("GET", "/", "connection: close")))
		if s.Open(0, conn) || !s.Open(1, conn) {
			t.Errorf("the connection %d: %v, at the next node %v", conn, s.Open(0, conn), s.Open(1, conn))
		}
		s.refuses(send(0, conn, "x"), api.ErrShut)
		s.goes(0, conn, says(200, "last", "one\n"))
		s.goes(0, conn, "")
		s.does(shut(0, conn))
		s.does(send(0, conn, req("GET", "/")))
		s.goes(0, conn, says(200, "", "one\n"))
	}
	// What is shut is not answered, and what was not told is forgotten.
	s.does(send(0, 3, req("GET", "/")), shut(0, 3))
	s.goes(0, 3, "")
	s.does(send(0, 3, "BREW / HTTP/1.1\r\n\r\n"))
	s.goes(0, 3, wrong(501, "last", api.ErrMethod))
	s.does(shut(0, 3), shut(0, 3))
	if !s.Open(0, 3) {
		t.Errorf("it is not open anew")
	}
}

// Words: what comes with an error changes nothing: nothing comes either.
func TestRefusedBytes(t *testing.T) {
	s := led(t, 3)
	s.does(send(1, 0, "x\r\n\r\n"))
	before := s.tells(3)
	s.refuses(send(1, 0, "y"), api.ErrShut)
	s.refuses(send(1, 8, "y"), api.ErrArg)
	if s.tells(3) != before {
		t.Errorf("what was refused changed something")
	}
	s.goes(1, 0, wrong(400, "last", api.ErrBad))
}

// Words: ActUp of a node that is up; of one that was down for long.
func TestUp(t *testing.T) {
	s := led(t, 3)
	for i := range 3 {
		s.refuses(up(i), api.ErrArg)
	}
	s.does(down(1), tick(40))
	s.leads(0)
	s.asks(0, req("PUT", "/one/k", "hi"), put(3, "hi"))
	s.does(up(1))
	s.refuses(up(1), api.ErrArg)
	s.does(tick(4))
	s.same(0, 1, 2)
	// All are down: nothing is answered, ticks pass, and all stand up again.
	s.does(down(0), down(1), down(2), tick(100))
	s.leads(-1)
	for i := range 3 {
		s.refuses(send(i, 0, "x"), api.ErrDown)
	}
	s.does(up(0), up(1), up(2), tick(60))
	k := s.Leader()
	s.asks(k, req("GET", "/one/k"), got(3, "hi"))
}

// Words: a loss of power keeps and tears of what waits on the disk as many as it is told.
func TestDownTears(t *testing.T) {
	for n := -1; n <= 3; n++ {
		for m := -1; m <= 3; m++ {
			s := led(t, 3)
			d := s.Disk(1)
			d.Append("x", "12")
			d.Append("x", "34")
			s.does(api.Act{Kind: api.ActDown, Node: 1, N: n, M: m})
			if !d.Down() {
				t.Errorf("the disk is up")
			}
			s.does(up(1))
			want := "1234"[:min(max(n, 0), 2)*2]
			if n < 2 {
				want = "1234"[:len(want)+min(max(m, 0), 2)]
			}
			if got, _ := d.Read("x"); got != want {
				t.Errorf("%d kept, %d torn: %q, not %q", n, m, got, want)
			}
		}
	}
}

// Words: the disk keeps what was made sure, whatever the loss of power keeps and tears of what was not.
func TestDownKeeps(t *testing.T) {
	for _, a := range []api.Act{{}, {N: 1}, {N: 9, M: 9}, {N: -1, M: -1}, {N: math.MaxInt, M: math.MaxInt}, {N: math.MinInt, M: math.MinInt}} {
		s := led(t, 1)
		s.asks(0, req("PUT", "/one/k", "hi"), put(3, "hi"))
		a.Kind = api.ActDown
		s.does(a, up(0), tick(30))
		s.asks(0, req("GET", "/one/k"), got(3, "hi"))
	}
}
