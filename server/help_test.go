package server_test

import (
	"fmt"
	"slices"
	"strconv"
	"strings"
	"testing"

	"stowage/api"
	"stowage/digest"
	"stowage/disk"
	"stowage/extent"
	"stowage/gate"
	"stowage/node"
	"stowage/server"
)

// rep is one text n times.
func rep(s string, n int) string { return strings.Repeat(s, n) }

// sumOf is the digest of bytes as digits.
func sumOf(s string) string { return digest.Hex(digest.Sum(s)) }

// short is a value as a text, or its beginning.
func short(v any) string {
	s := fmt.Sprintf("%+v", v)
	return s[:min(len(s), 400)]
}

// gateOf is a gate of a node on a disk.
func gateOf(t *testing.T, d *disk.Disk, me int, members ...int) *gate.Gate {
	t.Helper()
	n, e := node.Open(d, me, members, me)
	if e != api.OK {
		t.Fatalf("node.Open: %v", e)
	}
	x, _, e := extent.Open(d)
	if e != api.OK {
		t.Fatalf("extent.Open: %v", e)
	}
	g, e := gate.New(n, x)
	if e != api.OK {
		t.Fatalf("gate.New: %v", e)
	}
	return g
}

// serverOf is a server of a gate.
func serverOf(t *testing.T, g *gate.Gate) *server.Server {
	t.Helper()
	s, e := server.New(g)
	if s == nil || e != api.OK {
		t.Fatalf("New: %v", e)
	}
	return s
}

// alone is a server whose node leads alone.
func alone(t *testing.T) *server.Server {
	t.Helper()
	s := serverOf(t, gateOf(t, disk.New(), 0, 0))
	for range 10 {
		s.Tick(0)
	}
	return s
}

// filled is such a server with the bucket one, and k in it (3: hi).
func filled(t *testing.T) *server.Server {
	t.Helper()
	s := alone(t)
	asks(t, s, 0, req("PUT", "/one")+req("PUT", "/one/k", "hi"), says(200, "", "")+says(200, "", "", "x-version: 3", "etag: "+sumOf("hi")))
	return s
}

// cluster is servers of nodes that are all members.
type cluster struct {
	t     *testing.T
	l     []*server.Server
	disks []*disk.Disk
	lost  func(from, to int) bool
}

// three is three servers that the node 0 leads, with the bucket one.
func three(t *testing.T) *cluster {
	t.Helper()
	c := &cluster{t: t}
	for i := range 3 {
		d := disk.New()
		c.disks = append(c.disks, d)
		c.l = append(c.l, serverOf(t, gateOf(t, d, i, 0, 1, 2)))
	}
	c.ticks(15)
	c.l[0].Bytes(0, req("PUT", "/one"))
	c.comes()
	goes(t, c.l[0], 0, says(200, "", ""))
	return c
}

// comes lets all come that is under way.
func (c *cluster) comes() {
	for more := true; more; {
		more = false
		for i, s := range c.l {
			msgs, notes := s.Sent()
			for _, m := range msgs {
				if c.lost == nil || !c.lost(i, m.To) {
					c.l[m.To].Step(m)
				}
			}
			for _, n := range notes {
				if c.lost == nil || !c.lost(i, n.To) {
					c.l[n.To].Hear(n)
				}
			}
			more = more || len(msgs)+len(notes) > 0
		}
	}
}

// ticks lets ticks pass, and all come behind each.
func (c *cluster) ticks(n int) {
	for range n {
		for i, s := range c.l {
			s.Tick(i)
		}
		c.comes()
	}
}

// req is the bytes of a request: its method and target, and its body or, with a colon within, heads.
func req(method, target string, rest ...string) string {
	s := method + " " + target + " HTTP/1.1\r\n"
	body := ""
	for _, r := range rest {
		if strings.Contains(r, ": ") {
			s += r + "\r\n"
		} else {
			body = r
		}
	}
	if body != "" {
		s += "content-length: " + strconv.Itoa(len(body)) + "\r\n"
	}
	return s + "\r\n" + body
}

// says is the bytes of an answer; with last behind which the connection is shut.
func says(code int, last, body string, heads ...string) string {
	s := "HTTP/1.1 " + strconv.Itoa(code) + " Status\r\ncontent-length: " + strconv.Itoa(len(body)) + "\r\n"
	for _, h := range heads {
		s += h + "\r\n"
	}
	if last != "" {
		s += "connection: close\r\n"
	}
	return s + "\r\n" + body
}

// wrong is the bytes of an answer that tells an error.
func wrong(code int, last string, e api.Errno, heads ...string) string {
	return says(code, last, "error "+strconv.Itoa(int(e))+"\n", heads...)
}

// asks sends bytes, and asks what goes out.
func asks(t *testing.T, s *server.Server, conn int, b, want string) {
	t.Helper()
	if e := s.Bytes(conn, b); e != api.OK {
		t.Fatalf("Bytes(%d, %q): %v", conn, short(b), e)
	}
	goes(t, s, conn, want)
}

// goes asks what has gone out on a connection.
func goes(t *testing.T, s *server.Server, conn int, want string) {
	t.Helper()
	if out := s.Out(conn); out != want {
		t.Fatalf("on %d went out %q, not %q", conn, short(out), short(want))
	}
}

// isOpen asks whether a connection is open.
func isOpen(t *testing.T, s *server.Server, conn int, want bool) {
	t.Helper()
	if s.Open(conn) != want {
		t.Fatalf("Open(%d): %v", conn, !want)
	}
}

// inPieces sends bytes in pieces, cut at places, as long as the connection is open, and tells what went out.
func inPieces(s *server.Server, conn int, b string, places ...int) string {
	out := ""
	from := 0
	for _, at := range append(slices.Clone(places), len(b)) {
		if s.Bytes(conn, b[from:at]) != api.OK {
			break
		}
		out += s.Out(conn)
		from = at
	}
	return out
}
