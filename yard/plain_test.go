package yard_test

import (
	"fmt"
	"hash/fnv"
	"io"
	"slices"
	"strings"

	"stowage/api"
	"stowage/disk"
	"stowage/extent"
	"stowage/gate"
	"stowage/node"
	"stowage/server"
)

// plain is a yard as the chapter tells it.
type plain struct {
	disks   []*disk.Disk
	servers []*server.Server // none: the node is down
	off     []bool           // who is cut off
	ticks   int
	rounds  int // the greatest number of rounds in which something came
	lost    int // what did not come
}

// packet is what is under way.
type packet struct {
	from int
	msg  api.Msg
	note api.Note
	is   bool // a note
}

func newPlain(nodes int) *plain {
	p := &plain{disks: make([]*disk.Disk, nodes), servers: make([]*server.Server, nodes), off: make([]bool, nodes)}
	for i := range nodes {
		p.disks[i] = disk.New()
		p.start(i)
	}
	return p
}

// start lets a node stand up.
func (p *plain) start(i int) api.Errno {
	var all []int
	for k := range p.disks {
		all = append(all, k)
	}
	n, e := node.Open(p.disks[i], i, all, i)
	if e != api.OK {
		return e
	}
	x, _, e := extent.Open(p.disks[i])
	if e != api.OK {
		return e
	}
	g, e := gate.New(n, x)
	if e != api.OK {
		return e
	}
	p.servers[i], e = server.New(g)
	return e
}

// look lets nodes go down whose disks are, or that are down themselves (layer 11).
func (p *plain) look() {
	for i, s := range p.servers {
		if s != nil && s.Gate().Node().Raft() == nil {
			p.disks[i].Fail(0, 0)
			p.servers[i] = nil
		}
	}
}

// come lets all come that is under way.
func (p *plain) come() {
	for round := range 50 {
		var l []packet
		for i, s := range p.servers {
			msgs, notes := s.Sent()
			for _, m := range msgs {
				l = append(l, packet{from: i, msg: m})
			}
			for _, n := range notes {
				l = append(l, packet{from: i, note: n, is: true})
			}
		}
		if len(l) == 0 {
			return
		}
		p.rounds = max(p.rounds, round+1)
		for _, k := range l {
			p.deliver(k)
			p.look()
		}
	}
}

// deliver lets a packet come, or be lost.
func (p *plain) deliver(k packet) {
	to := k.msg.To
	if k.is {
		to = k.note.To
	}
	if to >= len(p.servers) || p.servers[to] == nil || p.off[k.from] || p.off[to] {
		p.lost++
		return
	}
	if k.is {
		p.servers[to].Hear(k.note)
	} else {
		p.servers[to].Step(k.msg)
	}
}

// do does an act.
func (p *plain) do(a api.Act) api.Errno {
	if a.Kind < api.ActTick || a.Kind > api.ActRoom || a.Kind != api.ActTick && (a.Node < 0 || a.Node >= len(p.disks)) {
		return api.ErrArg
	}
	if slices.Contains([]int{api.ActBytes, api.ActShut, api.ActDown}, a.Kind) && p.servers[a.Node] == nil {
		return api.ErrDown
	}
	switch a.Kind {
	case api.ActTick:
		return p.tick(a.N)
	case api.ActBytes:
		if e := p.servers[a.Node].Bytes(a.Conn, a.Text); e != api.OK {
			return e
		}
		p.look()
		p.come()
	case api.ActShut:
		return p.servers[a.Node].Shut(a.Conn)
	case api.ActDown:
		p.disks[a.Node].Fail(a.N, a.M)
		p.look()
	case api.ActUp:
		return p.up(a.Node)
	case api.ActCut:
		p.off[a.Node] = a.N == 1
	case api.ActRoom:
		n := a.N
		if n >= 0 {
			n += p.disks[a.Node].Used()
		}
		p.disks[a.Node].Room(n)
	}
	return api.OK
}

// tick lets ticks pass.
func (p *plain) tick(n int) api.Errno {
	if n < 1 || n > 1000 {
		return api.ErrArg
	}
	for range n {
		for i, s := range p.servers {
			s.Tick((3*i + p.ticks) % 11)
			p.look()
		}
		p.come()
		p.ticks++
	}
	return api.OK
}

// up lets a node stand up again.
func (p *plain) up(i int) api.Errno {
	if p.servers[i] != nil {
		return api.ErrArg
	}
	p.disks[i].Up()
	e := p.start(i)
	if e != api.OK {
		p.disks[i].Fail(0, 0)
	}
	return e
}

// leader is who leads in the greatest term.
func (p *plain) leader() int {
	leader, greatest := -1, -1
	for i, s := range p.servers {
		r := s.Gate().Node().Raft()
		if term, _ := r.Hard(); s != nil && r.Role() == api.Leader && term > greatest {
			leader, greatest = i, term
		}
	}
	return leader
}

// trace is a number that tells texts apart.
func trace(s string) uint64 {
	h := fnv.New64a()
	io.WriteString(h, s)
	return h.Sum64()
}

// tells is all that there is to see, but for what goes out.
func (p *plain) tells() string {
	var b strings.Builder
	fmt.Fprintln(&b, p.leader())
	for i := -1; i <= len(p.servers); i++ {
		var s *server.Server
		if i >= 0 && i < len(p.servers) {
			s = p.servers[i]
		}
		fmt.Fprint(&b, i, s != nil, trace(s.Gate().Machine().Save()))
		for conn := -1; conn <= api.MaxConns; conn++ {
			fmt.Fprint(&b, s.Open(conn))
		}
		fmt.Fprintln(&b)
	}
	return b.String()
}

// tells is the same of a yard.
func (s *scene) tells(nodes int) string {
	var b strings.Builder
	fmt.Fprintln(&b, s.Leader())
	for i := -1; i <= nodes; i++ {
		fmt.Fprint(&b, i, s.Up(i), trace(s.Save(i)))
		for conn := -1; conn <= api.MaxConns; conn++ {
			fmt.Fprint(&b, s.Open(i, conn))
		}
		fmt.Fprintln(&b)
	}
	return b.String()
}
