package server_test

import (
	"strings"
	"testing"

	"stowage/api"
	"stowage/disk"
)

// The ten examples of the whole, as far as servers show them.
func TestExamples(t *testing.T) {
	c := &cluster{t: t}
	for i := range 3 {
		d := disk.New()
		c.disks = append(c.disks, d)
		c.l = append(c.l, serverOf(t, gateOf(t, d, i, 0, 1, 2)))
	}
	c.ticks(30)
	ask := func(i int, b, want string) {
		t.Helper()
		c.l[i].Bytes(0, b)
		c.comes()
		goes(t, c.l[i], 0, want)
	}
	hi, ho := "etag: "+sumOf("hi"), "etag: "+sumOf("ho")
	ask(0, req("PUT", "/one"), says(200, "", ""))
	ask(0, req("PUT", "/one/k", "hi"), says(200, "", "", "x-version: 3", hi))
	ask(0, req("GET", "/one/k"), says(200, "", "hi", "x-version: 3", hi))
	ask(0, req("HEAD", "/one/k"), says(200, "", "", "x-version: 3", hi))
	ask(1, req("GET", "/one/k"), wrong(307, "", api.ErrLeader, "x-leader: 0"))
	ask(0, req("PUT", "/one/k", "ho"), says(200, "", "", "x-version: 4", ho))
	ask(0, req("GET", "/one/k?version=3"), says(200, "", "hi", "x-version: 3", hi))
	ask(0, req("DELETE", "/one/k"), says(200, "", "", "x-version: 5"))
	ask(0, req("GET", "/one/k"), wrong(404, "", api.ErrMark))
	ask(0, req("GET", "/one"), says(200, "", ""))
	first := rep("a", 5000)
	ask(0, req("POST", "/one/big?uploads"), says(200, "", "", "x-version: 6"))
	ask(0, req("PUT", "/one/big?upload=6&part=1", first), says(200, "", "", "x-version: 1", "etag: "+sumOf(first)))
	ask(0, req("PUT", "/one/big?upload=6&part=2", "end"), says(200, "", "", "x-version: 2", "etag: "+sumOf("end")))
	ask(0, req("GET", "/one?uploads"), says(200, "", "6 big\n"))
	ask(0, req("GET", "/one/big?upload=6"), says(200, "", "1 5000 "+sumOf(first)+"\n2 3 "+sumOf("end")+"\n"))
	c.l[0].Bytes(0, req("POST", "/one/big?upload=6", "1 "+sumOf(first)+"\n2 "+sumOf("end")+"\n"))
	c.comes()
	if out := c.l[0].Out(0); !strings.HasPrefix(out, "HTTP/1.1 200 Status\r\ncontent-length: 0\r\nx-version: 9\r\netag: ") {
		t.Fatalf("what is put together: %q", out)
	}
	c.l[0].Bytes(0, req("GET", "/one/big"))
	c.comes()
	if out := c.l[0].Out(0); !strings.HasSuffix(out, "\r\n\r\n"+first+"end") {
		t.Fatalf("what was put together: %q", short(out))
	}
	once := says(200, "", "", "x-version: 10", "etag: "+sumOf("t"))
	ask(0, req("PUT", "/one/t", "x-token: a", "t"), once)
	ask(0, req("PUT", "/one/t", "x-token: a", "t"), once)
	ask(0, req("PUT", "/one/t", "x-token: a", "other"), wrong(409, "", api.ErrClash))

	// The power of the node 0 fails, and another one leads.
	c.disks[0].Fail(0, 0)
	c.lost = func(from, to int) bool { return from == 0 || to == 0 }
	c.ticks(60)
	ask(1, req("GET", "/one/k?version=3"), says(200, "", "hi", "x-version: 3", hi))
	ask(1, req("PUT", "/one/t", "x-token: a", "t"), once)
	// Two of three are down: a request waits, and nothing becomes of it.
	c.disks[2].Fail(0, 0)
	c.lost = func(int, int) bool { return true }
	c.l[1].Bytes(0, req("PUT", "/two"))
	for range 59 {
		c.ticks(1)
		goes(t, c.l[1], 0, "")
	}
	c.ticks(1)
	goes(t, c.l[1], 0, wrong(503, "", api.ErrBusy))
	ask(1, "BREW / HTTP/1.1\r\n", wrong(501, "last", api.ErrMethod))
	isOpen(t, c.l[1], 0, false)

	// All stand up again, and go on with what there was.
	for i := range 3 {
		c.disks[i].Fail(0, 0)
		c.disks[i].Up()
		c.l[i] = serverOf(t, gateOf(t, c.disks[i], i, 0, 1, 2))
	}
	c.lost = nil
	c.ticks(40)
	leader := leaderOf(t, c)
	ask(leader, req("GET", "/one/k?version=3"), says(200, "", "hi", "x-version: 3", hi))
	ask(leader, req("PUT", "/one/t", "x-token: a", "t"), once)
}

// leaderOf is the node that leads.
func leaderOf(t *testing.T, c *cluster) int {
	t.Helper()
	for i, s := range c.l {
		if s.Gate().Node().Raft().Role() == api.Leader {
			return i
		}
	}
	t.Fatalf("nobody leads")
	return -1
}

// Example 1 of the chapter.
func TestExample(t *testing.T) {
	s := alone(t)
	asks(t, s, 0, "PUT /one HTTP/1.1\r\n\r\n", "HTTP/1.1 200 Status\r\ncontent-length: 0\r\n\r\n")
	asks(t, s, 0, "GET /none/k HTTP/1.1\r\n\r\n", "HTTP/1.1 404 Status\r\ncontent-length: 8\r\n\r\nerror 4\n")
	asks(t, s, 0, "BREW / HTTP/1.1\r\n\r\n", "HTTP/1.1 501 Status\r\ncontent-length: 10\r\nconnection: close\r\n\r\nerror 193\n")
}

// Promise 22.2: the messages and notes of a server are the gate's, and go on to others once.
func TestSent(t *testing.T) {
	c := three(t)
	lead := c.l[0]
	lead.Bytes(0, req("PUT", "/one/k", "hi")+req("GET", "/one/k"))
	msgs, notes := lead.Sent()
	if len(msgs) == 0 || len(notes) != 2 || notes[0].Data != "hi" {
		t.Errorf("Sent: %v, %v", msgs, notes)
	}
	if msgs, notes := lead.Sent(); len(msgs)+len(notes) != 0 {
		t.Errorf("Sent again: %v, %v", msgs, notes)
	}
}
