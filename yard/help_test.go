package yard_test

import (
	"fmt"
	"strconv"
	"strings"
	"testing"

	"stowage/api"
	"stowage/digest"
	"stowage/yard"
)

// rep is one text n times.
func rep(s string, n int) string { return strings.Repeat(s, n) }

// sumOf is the digest of bytes as digits.
func sumOf(s string) string { return digest.Hex(digest.Sum(s)) }

// short is a value as a text, or its beginning.
func short(v any) string {
	s := fmt.Sprintf("%+v", v)
	return s[:min(len(s), 400)]
}

// The acts.
func tick(n int) api.Act { return api.Act{Kind: api.ActTick, N: n} }

func send(node, conn int, text string) api.Act {
	return api.Act{Kind: api.ActBytes, Node: node, Conn: conn, Text: text}
}

func shut(node, conn int) api.Act { return api.Act{Kind: api.ActShut, Node: node, Conn: conn} }

func down(node int) api.Act { return api.Act{Kind: api.ActDown, Node: node} }

func up(node int) api.Act { return api.Act{Kind: api.ActUp, Node: node} }

func cut(node int) api.Act { return api.Act{Kind: api.ActCut, Node: node, N: 1} }

func join(node int) api.Act { return api.Act{Kind: api.ActCut, Node: node} }

func room(node, n int) api.Act { return api.Act{Kind: api.ActRoom, Node: node, N: n} }

// scene is a yard in a test.
type scene struct {
	t *testing.T
	*yard.Yard
}

// newScene is a yard of so many nodes.
func newScene(t *testing.T, nodes int) *scene {
	t.Helper()
	y, e := yard.New(nodes)
	if y == nil || e != api.OK {
		t.Fatalf("New(%d): %v", nodes, e)
	}
	return &scene{t, y}
}

// led is a yard that the node 0 leads, with the bucket one.
func led(t *testing.T, nodes int) *scene {
	t.Helper()
	s := newScene(t, nodes)
	s.does(tick(30))
	s.leads(0)
	s.asks(0, req("PUT", "/one"), says(200, "", ""))
	return s
}

// does asks that acts are done.
func (s *scene) does(l ...api.Act) {
	s.t.Helper()
	for _, a := range l {
		s.refuses(a, api.OK)
	}
}

// refuses asks for an act's error.
func (s *scene) refuses(a api.Act, want api.Errno) {
	s.t.Helper()
	if e := s.Do(a); e != want {
		s.t.Fatalf("Do(%s): %v, not %v", short(a), e, want)
	}
}

// leads asks who leads.
func (s *scene) leads(node int) {
	s.t.Helper()
	if got := s.Leader(); got != node {
		s.t.Fatalf("Leader: %d, not %d", got, node)
	}
}

// isUp asks whether a node is up.
func (s *scene) isUp(node int, want bool) {
	s.t.Helper()
	if s.Up(node) != want {
		s.t.Fatalf("Up(%d): %v", node, !want)
	}
}

// goes asks what went out on a connection.
func (s *scene) goes(node, conn int, want string) {
	s.t.Helper()
	if out := s.Out(node, conn); out != want {
		s.t.Fatalf("at %d on %d went out %q, not %q", node, conn, short(out), short(want))
	}
}

// asks sends bytes on the connection 0, and asks what goes out.
func (s *scene) asks(node int, text, want string) {
	s.t.Helper()
	s.does(send(node, 0, text))
	s.goes(node, 0, want)
}

// same asks that nodes have the same machine.
func (s *scene) same(nodes ...int) {
	s.t.Helper()
	for _, i := range nodes {
		if s.Save(i) == "" || s.Save(i) != s.Save(nodes[0]) {
			s.t.Fatalf("the machine of %d is not that of %d", i, nodes[0])
		}
	}
}

// req is the bytes of a request: its method and target, and its body or, with a colon within, heads.
func req(method, target string, rest ...string) string {
	s := method + " " + target + " HTTP/1.1\r\n"
	body := ""
	for _, r := range rest {
		if strings.Contains(r, ": ") {
			s += r + "\r\n"
		} else {
			body = r
		}
	}
	if body != "" {
		s += "content-length: " + strconv.Itoa(len(body)) + "\r\n"
	}
	return s + "\r\n" + body
}

// says is the bytes of an answer; with last behind which the connection is shut.
func says(code int, last, body string, heads ...string) string {
	s := "HTTP/1.1 " + strconv.Itoa(code) + " Status\r\ncontent-length: " + strconv.Itoa(len(body)) + "\r\n"
	for _, h := range heads {
		s += h + "\r\n"
	}
	if last != "" {
		s += "connection: close\r\n"
	}
	return s + "\r\n" + body
}

// wrong is the bytes of an answer that tells an error.
func wrong(code int, last string, e api.Errno, heads ...string) string {
	return says(code, last, "error "+strconv.Itoa(int(e))+"\n", heads...)
}

// put is the answer to a put.
func put(id int, body string) string {
	return says(200, "", "", "x-version: "+strconv.Itoa(id), "etag: "+sumOf(body))
}

// got is the answer to a reading.
func got(id int, body string) string {
	return says(200, "", body, "x-version: "+strconv.Itoa(id), "etag: "+sumOf(body))
}
