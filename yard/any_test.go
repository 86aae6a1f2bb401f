package yard_test

import (
	"fmt"
	"math/rand"
	"strings"
	"testing"

	"stowage/api"
	"stowage/meta"
	"stowage/yard"
)

// drawn draws acts for a yard of so many nodes.
type drawn struct {
	*rand.Rand
	nodes   int
	changes bool // members come and go
	asked   int
	first   []api.Act // ahead of those that are drawn
}

// newDrawn draws by a seed.
func newDrawn(seed int) *drawn {
	r := rand.New(rand.NewSource(int64(seed)))
	d := &drawn{Rand: r, nodes: 1 + r.Intn(api.MaxNodes), changes: r.Intn(3) == 0}
	if seed%100 == 0 {
		d.first = append(filling(d.nodes-1, 120), tick(4))
	}
	return d
}

// filling is acts by which a machine comes to have a long text, of which the last node gets a snapshot, piece by piece.
func filling(last, keys int) []api.Act {
	l := []api.Act{tick(30), send(0, 0, req("PUT", "/one")), cut(last)}
	for i := range keys {
		l = append(l, send(0, 0, req("PUT", fmt.Sprintf("/one/%s-%d", rep("long", 200), i))))
	}
	return append(l, tick(2), join(last))
}

// key is a key.
func (d *drawn) key() string { return fmt.Sprint("k", d.Intn(9)) }

// body is a body of no, one or some extents, unlike those ahead.
func (d *drawn) body() string {
	return fmt.Sprint(d.asked, " ") + rep("x", d.Intn(3)*d.Intn(5000))
}

// request is the bytes of a request.
func (d *drawn) request() string {
	d.asked++
	switch d.Intn(20) {
	case 0, 1, 2:
		return req("PUT", "/one")
	case 3, 4, 5, 6, 7:
		return req("PUT", "/one/"+d.key(), d.body())
	case 8, 9, 10:
		return req("GET", "/one/"+d.key())
	case 11:
		return req("HEAD", "/one/"+d.key())
	case 12:
		return req("DELETE", "/one/"+d.key())
	case 13:
		return req("GET", "/one")
	case 14:
		return req("PUT", "/one/t", "x-token: t"+fmt.Sprint(d.Intn(5)), "t")
	case 15:
		return req("POST", "/one/"+d.key()+"?uploads")
	case 16:
		return req("GET", fmt.Sprint("/one/", d.key(), "?version=", 1+d.Intn(30)))
	case 17:
		if d.Intn(4) == 0 {
			return []string{"BREW / HTTP/1.1\r\n\r\n", "x", req("GET", "/", "connection: close"), "GET / HT"}[d.Intn(4)]
		}
		return req("PUT", "/two")
	case 18:
		if d.changes {
			return req([]string{"PUT", "DELETE"}[d.Intn(2)], fmt.Sprint("/_nodes/", d.Intn(d.nodes)))
		}
		return req("POST", "/_expire?upto=9")
	}
	return req("GET", "/")
}

// bad is an act that is wrong in something, mostly.
func (d *drawn) bad() api.Act {
	odd := []int{-1 << 62, -2, -1, 0, 1, 2, 6, 7, 8, 9, 1000, 1001, 1 << 62}
	one := func() int { return odd[d.Intn(len(odd))] }
	a := api.Act{Kind: d.Intn(9) - 1, Node: one(), Conn: one(), N: one(), M: one(), Text: "GET"}
	if a.Kind == api.ActTick && a.N == 1000 {
		a.N = 1001 // it takes long
	}
	return a
}

// act is an act; requests are sent to the node that leads, mostly.
func (d *drawn) act(leader int) api.Act {
	if len(d.first) > 0 {
		a := d.first[0]
		d.first = d.first[1:]
		return a
	}
	node := d.Intn(d.nodes)
	switch d.Intn(24) {
	case 0, 1, 2, 3, 4:
		return tick(1 + d.Intn(4)*d.Intn(10))
	case 5:
		return shut(node, d.Intn(4))
	case 6:
		return api.Act{Kind: api.ActDown, Node: node, N: d.Intn(4), M: d.Intn(90)}
	case 7, 8, 9:
		return up(node)
	case 10:
		return cut(node)
	case 11, 12:
		return join(node)
	case 13:
		return room(node, d.Intn(9)*d.Intn(900))
	case 14, 15:
		return room(node, -1-d.Intn(3))
	case 16:
		return d.bad()
	}
	if leader >= 0 && d.Intn(4) > 0 {
		node = leader
	}
	text := ""
	for range 1 + d.Intn(4) {
		text += d.request()
	}
	return send(node, d.Intn(4), text)
}

// Promise 24.1: a yard and a plain one are the same behind any acts, also where disks go down within a step.
func TestAgainstPlain(t *testing.T) {
	fell, rounds, lost, shots := 0, 0, 0, 0
	for seed := range 150 {
		d := newDrawn(seed)
		s, p := newScene(t, d.nodes), newPlain(d.nodes)
		for step := range 150 {
			if i := d.Intn(d.nodes); len(d.first) == 0 && d.Intn(30) == 0 && s.Up(i) {
				f := api.Fall{At: d.Intn(12), Keep: d.Intn(4), Torn: d.Intn(90)}
				s.Plan(i, f)
				f.At += p.disks[i].Changes()
				p.disks[i].Plan([]api.Fall{f})
			}
			up := countUp(s.Yard, d.nodes)
			a := d.act(s.Leader())
			if e, want := s.Do(a), p.do(a); e != want {
				t.Fatalf("seed %d, step %d: %s: %v, not %v", seed, step, short(a), e, want)
			}
			if a.Kind != api.ActDown {
				fell += max(up-countUp(s.Yard, d.nodes), 0)
			}
			if got, want := s.tells(d.nodes), p.tells(); got != want {
				t.Fatalf("seed %d, step %d: behind %s:\n%s\nnot\n%s", seed, step, short(a), got, want)
			}
			for range 3 {
				node, conn := d.Intn(d.nodes), d.Intn(4)
				if got, want := s.Out(node, conn), p.servers[node].Out(conn); got != want {
					t.Fatalf("seed %d, step %d: at %d on %d went out %q, not %q", seed, step, node, conn, short(got), short(want))
				}
			}
		}
		rounds, lost = max(rounds, p.rounds), lost+p.lost
		for i := range d.nodes {
			shots += min(s.Gate(i).Node().Raft().Base().Index, 1)
		}
	}
	if fell < 50 || lost < 1000 || shots < 20 || rounds != 50 {
		t.Errorf("too little happened: %d fell, %d were lost, %d have snapshots, there were %d rounds", fell, lost, shots, rounds)
	}
}

// countUp is how many nodes are up.
func countUp(y *yard.Yard, nodes int) int {
	n := 0
	for i := range nodes {
		if y.Up(i) {
			n++
		}
	}
	return n
}

// heal lets all nodes be up, with room, none cut off.
func (s *scene) heal(nodes int) {
	s.t.Helper()
	for i := range nodes {
		s.Plan(i)
		s.does(join(i), room(i, -1))
		if !s.Up(i) {
			s.does(up(i))
		}
	}
}

// goesOn asks that one leads, and answers.
func (s *scene) goesOn(what string, nodes int) {
	s.t.Helper()
	k := s.Leader()
	if k < 0 {
		s.t.Fatalf("%s: of %d nobody leads", what, nodes)
	}
	s.does(shut(k, 7))
	for _, c := range []struct{ text, begins, ends string }{
		{req("PUT", "/end"), "HTTP/1.1 200 ", "\r\n\r\n"}, {req("PUT", "/end/k", "hi"), "HTTP/1.1 200 ", "etag: " + sumOf("hi") + "\r\n\r\n"}, {req("GET", "/end/k"), "HTTP/1.1 200 ", "\r\n\r\nhi"},
	} {
		s.does(send(k, 7, c.text))
		if out := s.Out(k, 7); !strings.HasPrefix(out, c.begins) || !strings.HasSuffix(out, c.ends) {
			s.t.Fatalf("%s: of %d: %q", what, nodes, out)
		}
	}
}

// Promise 24.2: whatever was done, it goes on within 120 ticks behind, and all nodes come to have the same machine.
func TestGoesOn(t *testing.T) {
	for seed := range 400 {
		d := newDrawn(1000 + seed)
		s := newScene(t, d.nodes)
		for range 20 + d.Intn(150) {
			if i := d.Intn(d.nodes); len(d.first) == 0 && d.Intn(30) == 0 && s.Up(i) {
				s.Plan(i, api.Fall{At: d.Intn(12), Keep: d.Intn(4), Torn: d.Intn(90)})
			}
			s.Do(d.act(s.Leader()))
		}
		s.heal(d.nodes)
		if d.Intn(2) == 0 {
			s.does(tick(120))
		} else {
			for range 120 {
				s.does(tick(1))
			}
		}
		s.goesOn(fmt.Sprint("seed ", seed), d.nodes)
		if m, e := meta.Load(s.Save(s.Leader())); e != api.OK || m.Index() == 0 {
			t.Errorf("seed %d: Save says no machine: %v", seed, e)
		}
		s.does(tick(20))
		for i := range d.nodes {
			if !d.changes && s.Save(i) != s.Save(s.Leader()) {
				t.Errorf("seed %d: the machine of %d is another one", seed, i)
			}
		}
	}
}

// Promise 24.3: same acts, same yard.
func TestSameAgain(t *testing.T) {
	for seed := range 40 {
		told := func() string {
			d := newDrawn(5000 + seed)
			s := newScene(t, d.nodes)
			var b strings.Builder
			for range 120 {
				a := d.act(s.Leader())
				fmt.Fprintln(&b, s.Do(a), s.tells(d.nodes), s.Out(d.Intn(d.nodes), d.Intn(4)))
			}
			return b.String()
		}
		if told() != told() {
			t.Errorf("seed %d: the same acts make another yard", seed)
		}
	}
}

// Promise 24.3: two yards stand beside one another, and what is done to one changes nothing of the other.
func TestTwo(t *testing.T) {
	d := newDrawn(1)
	one, other := newScene(t, 3), newScene(t, 3)
	alone := newScene(t, 3)
	d.nodes = 3
	for range 200 {
		a := d.act(one.Leader())
		one.Do(a)
		alone.Do(a)
		other.Do(d.act(other.Leader()))
		if one.tells(3) != alone.tells(3) {
			t.Fatalf("another yard was changed by %s", short(a))
		}
	}
}
