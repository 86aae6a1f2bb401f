package server_test

import (
	"strings"
	"testing"

	"stowage/api"
	"stowage/cmd"
	"stowage/disk"
	"stowage/gate"
	"stowage/meta"
	"stowage/octet"
	"stowage/server"
	"stowage/shot"
	"stowage/token"
)

// Promise 22.1: what New refuses, and what a new server has.
func TestNew(t *testing.T) {
	for _, g := range []*gate.Gate{nil, {}} {
		if s, e := server.New(g); s != nil || e != api.ErrArg {
			t.Errorf("New of none: %v, %v", s, e)
		}
	}
	g := gateOf(t, disk.New(), 0, 0)
	s := serverOf(t, g)
	for i := range api.MaxConns {
		isOpen(t, s, i, true)
		goes(t, s, i, "")
	}
	if s.Gate() != g {
		t.Errorf("Gate: another one")
	}
	if msgs, notes := s.Sent(); len(msgs)+len(notes) != 0 {
		t.Errorf("Sent: %v, %v", msgs, notes)
	}
}

// Promise 22.1: a nil server, and one that no call made.
func TestNil(t *testing.T) {
	for _, s := range []*server.Server{nil, {}} {
		for conn := -1; conn < 9; conn++ {
			if s.Bytes(conn, "GET / HTTP/1.1\r\n\r\n") != api.ErrArg || s.Shut(conn) != api.ErrArg || s.Out(conn) != "" || s.Open(conn) {
				t.Errorf("a server that is none has the connection %d", conn)
			}
		}
		s.Tick(1)
		s.Step(api.Msg{Kind: api.MsgVote, From: 1, To: 0, Term: 1})
		s.Hear(api.Note{})
		if msgs, notes := s.Sent(); len(msgs)+len(notes) != 0 || s.Gate() != nil {
			t.Errorf("a server that is none tells something")
		}
	}
}

// Promise 22.1: connections that there are not.
func TestNoConnection(t *testing.T) {
	s := filled(t)
	for _, conn := range []int{-1, 8, 9, 64, -1 << 63, 1<<63 - 1} {
		if e := s.Bytes(conn, req("PUT", "/two")); e != api.ErrArg {
			t.Errorf("Bytes(%d): %v", conn, e)
		}
		if e := s.Shut(conn); e != api.ErrArg {
			t.Errorf("Shut(%d): %v", conn, e)
		}
		isOpen(t, s, conn, false)
		goes(t, s, conn, "")
	}
	asks(t, s, 7, req("GET", "/"), says(200, "", "one\n"))
}

// Words: an answer of each kind: its status, x-version, etag and body, there and left out.
func TestAnswers(t *testing.T) {
	s := filled(t)
	hi, ho := "etag: "+sumOf("hi"), "etag: "+sumOf("ho")
	for _, c := range []struct{ b, want string }{
		{req("GET", "/"), says(200, "", "one\n")},
		{req("PUT", "/two"), says(200, "", "")},
		{req("PUT", "/two"), wrong(409, "", api.ErrThere)},
		{req("GET", "/one/k"), says(200, "", "hi", "x-version: 3", hi)},
		{req("HEAD", "/one/k"), says(200, "", "", "x-version: 3", hi)},
		{req("GET", "/one"), says(200, "", "k k\n")},
		{req("GET", "/none/k"), wrong(404, "", api.ErrNone)},
		{req("HEAD", "/none/k"), says(404, "", "")},
		{req("HEAD", "/one/nokey"), says(404, "", "")},
		{req("GET", "/one/nokey"), wrong(404, "", api.ErrKey)},
		{req("GET", "/one/k?version=99"), wrong(404, "", api.ErrVersion)},
		{req("PUT", "/one/k", "ho"), says(200, "", "", "x-version: 6", ho)},
		{req("GET", "/one/k?version=3"), says(200, "", "hi", "x-version: 3", hi)},
		{req("DELETE", "/one/k"), says(200, "", "", "x-version: 7")},
		{req("GET", "/one/k"), wrong(404, "", api.ErrMark)},
		{req("HEAD", "/one/k"), says(404, "", "")},
		{req("GET", "/one/k?version=7"), says(200, "", "", "x-version: 7")},
		{req("DELETE", "/one/k?version=7"), says(200, "", "", "x-version: 7")},
		{req("GET", "/one/k"), says(200, "", "ho", "x-version: 6", ho)},
		{req("PUT", "/one/t", "a", "x-token: t"), says(200, "", "", "x-version: 9", "etag: "+sumOf("a"))},
		{req("PUT", "/one/t", "a", "x-token: t"), says(200, "", "", "x-version: 9", "etag: "+sumOf("a"))},
		{req("PUT", "/one/t", "b", "x-token: t"), wrong(409, "", api.ErrClash)},
		{req("POST", "/_expire?upto=9"), says(200, "", "", "x-version: 1")},
		{req("POST", "/_expire?upto=9"), says(200, "", "")},
		{req("DELETE", "/one"), wrong(409, "", api.ErrFilled)},
		{req("PUT", "/_nodes/0"), wrong(409, "", api.ErrThere)},
		{req("DELETE", "/_nodes/5"), wrong(404, "", api.ErrNone)},
		{req("DELETE", "/_nodes/0"), wrong(400, "", api.ErrArg)},
		{req("POST", "/one/k?upload=99"), wrong(404, "", api.ErrUpload)},
		{req("POST", "/one"), wrong(405, "", api.ErrWay)},
		{req("HEAD", "/one"), says(405, "", "")},
		{req("GET", "/_nodes"), wrong(404, "", api.ErrNone)},
		{req("GET", "/one?most=0"), wrong(400, "", api.ErrForm)},
		{req("GET", "/o"), wrong(400, "", api.ErrForm)},
		{req("HEAD", "/o"), says(400, "", "")},
		{req("GET", "/one", "body"), wrong(400, "", api.ErrForm)},
		{req("PUT", "/one/e"), says(200, "", "", "x-version: 16", "etag: "+sumOf(""))},
		{req("GET", "/one/e"), says(200, "", "", "x-version: 16", "etag: "+sumOf(""))},
		{req("GET", "/one/k", "connection: keep-alive"), says(200, "", "ho", "x-version: 6", ho)},
	} {
		asks(t, s, 2, c.b, c.want)
		isOpen(t, s, 2, true)
	}
}

// Words: x-leader is told, if somebody is known to lead.
func TestLeader(t *testing.T) {
	c := &cluster{t: t}
	for i := range 3 {
		c.l = append(c.l, serverOf(t, gateOf(t, disk.New(), i, 0, 1, 2)))
	}
	asks(t, c.l[1], 0, req("GET", "/"), wrong(307, "", api.ErrLeader))
	asks(t, c.l[1], 0, req("HEAD", "/one/k"), says(307, "", ""))
	c.ticks(15)
	asks(t, c.l[1], 0, req("GET", "/"), wrong(307, "", api.ErrLeader, "x-leader: 0"))
	asks(t, c.l[2], 0, req("PUT", "/one"), wrong(307, "", api.ErrLeader, "x-leader: 0"))
	asks(t, c.l[2], 0, req("HEAD", "/one/k"), says(307, "", "", "x-leader: 0"))
	asks(t, c.l[2], 0, req("PUT", "/one/k", "x", "connection: close"), wrong(307, "last", api.ErrLeader, "x-leader: 0"))
	c.l[1].Step(api.Msg{Kind: api.MsgVoted, From: 2, To: 1, Term: 9})
	asks(t, c.l[1], 0, req("GET", "/"), wrong(307, "", api.ErrLeader))
}

// Words: a node that is down, and no room, are answers.
func TestDownAndFull(t *testing.T) {
	d := disk.New()
	s := serverOf(t, gateOf(t, d, 0, 0))
	for range 10 {
		s.Tick(0)
	}
	asks(t, s, 0, req("PUT", "/one"), says(200, "", ""))
	d.Room(d.Used())
	asks(t, s, 0, req("PUT", "/one/k", "hi"), wrong(507, "", api.ErrFull))
	asks(t, s, 0, req("GET", "/one"), says(200, "", ""))
	d.Fail(0, 0)
	asks(t, s, 0, req("GET", "/one"), wrong(503, "", api.ErrDown))
	isOpen(t, s, 0, true)
}

// Promise 22.2: bytes that are no request are answered 400, 413, 431 or 501, change nothing, and shut the connection.
func TestNoRequest(t *testing.T) {
	for _, c := range []struct {
		b    string
		code int
		e    api.Errno
	}{
		{"x\r\n", 400, api.ErrBad}, {"GET /\r\n", 400, api.ErrBad}, {"GET / HTTP/1.0\r\n", 400, api.ErrBad}, {"get / HTTP/1.1\r\n", 400, api.ErrBad}, {"\r\n", 400, api.ErrBad}, {"\n\r\n", 400, api.ErrBad},
		{"GET / HTTP/1.1\r\nno head\r\n", 400, api.ErrBad}, {"GET / HTTP/1.1\r\n a: b\r\n", 400, api.ErrBad}, {"PUT /one/k HTTP/1.1\r\ncontent-length: x\r\n", 400, api.ErrBad},
		{"PUT /one/k HTTP/1.1\r\ncontent-length: 131073\r\n", 413, api.ErrBody}, {"PUT /one/k HTTP/1.1\r\ntransfer-encoding: chunked\r\n\r\n20001\r\n", 413, api.ErrBody},
		{"PUT /one/k HTTP/1.1\r\ntransfer-encoding: chunked\r\n\r\nzz\r\n", 400, api.ErrBad}, {"PUT /one/k HTTP/1.1\r\ntransfer-encoding: chunked\r\n\r\n1\r\nxy", 400, api.ErrBad},
		{rep("x", api.MaxLine+1), 431, api.ErrHead}, {"GET / HTTP/1.1\r\n" + rep("a: b\r\n", api.MaxHeads+1), 431, api.ErrHead},
		{"BREW / HTTP/1.1\r\n", 501, api.ErrMethod}, {"PUT /one/k HTTP/1.1\r\ntransfer-encoding: gzip\r\n", 501, api.ErrMethod},
	} {
		s := filled(t)
		before := s.Gate().Machine().Save()
		asks(t, s, 1, c.b+req("PUT", "/two"), wrong(c.code, "last", c.e))
		isOpen(t, s, 1, false)
		if e := s.Bytes(1, req("PUT", "/two")); e != api.ErrShut {
			t.Errorf("%q: Bytes behind it: %v", short(c.b), e)
		}
		goes(t, s, 1, "")
		if s.Gate().Machine().Save() != before {
			t.Errorf("%q changed something", short(c.b))
		}
		asks(t, s, 0, req("GET", "/"), says(200, "", "one\n"))
		// Ahead of it requests are answered, each.
		asks(t, s, 2, req("GET", "/")+req("POST", "/")+c.b, says(200, "", "one\n")+wrong(405, "", api.ErrWay)+wrong(c.code, "last", c.e))
		isOpen(t, s, 2, false)
	}
	// The beginning of a request is none yet.
	s := filled(t)
	for i, b := range []string{"", "GET / HTTP/1.1", "GET / HTTP/1.1\r\n", "PUT /one/k HTTP/1.1\r\ncontent-length: 5\r\n\r\nfour", rep("x", api.MaxLine), "PUT /one/k HTTP/1.1\r\ntransfer-encoding: chunked\r\n\r\n1\r\nx\r\n0\r\n"} {
		asks(t, s, i, b, "")
		isOpen(t, s, i, true)
	}
}

// Words: behind a last one the connection is shut, and what came behind it is not read.
func TestLast(t *testing.T) {
	s := filled(t)
	last := req("GET", "/", "connection: close")
	asks(t, s, 0, req("GET", "/")+last+req("PUT", "/two")+"BREW / HTTP/1.1\r\n", says(200, "", "one\n")+says(200, "last", "one\n"))
	isOpen(t, s, 0, false)
	for _, b := range []string{"", "x", req("PUT", "/two"), last} {
		if e := s.Bytes(0, b); e != api.ErrShut {
			t.Errorf("Bytes(0, %q): %v", b, e)
		}
	}
	goes(t, s, 0, "")
	asks(t, s, 1, req("GET", "/"), says(200, "", "one\n"))
	// An error of the route is a last one just if the request is.
	asks(t, s, 1, req("POST", "/"), wrong(405, "", api.ErrWay))
	asks(t, s, 1, req("POST", "/", "connection: CLOSE"), wrong(405, "last", api.ErrWay))
	isOpen(t, s, 1, false)
	asks(t, s, 2, req("HEAD", "/one/k", "connection: close"), says(200, "last", "", "x-version: 3", "etag: "+sumOf("hi")))
	isOpen(t, s, 2, false)
	// While its answer is under way the connection is open, and what comes is not read.
	c := three(t)
	lead := c.l[0]
	c.lost = func(int, int) bool { return true }
	asks(t, lead, 3, req("DELETE", "/one/k", "connection: close")+req("PUT", "/two"), "")
	asks(t, lead, 3, req("PUT", "/six"), "")
	asks(t, lead, 3, "BREW / HTTP/1.1\r\n", "")
	isOpen(t, lead, 3, true)
	if n := lead.Gate().Jobs(); n != 1 {
		t.Errorf("%d requests were asked for", n)
	}
	c.comes()
	c.lost = nil
	c.ticks(4)
	goes(t, lead, 3, says(200, "last", "", "x-version: 3"))
	isOpen(t, lead, 3, false)
	asks(t, lead, 4, req("GET", "/"), "")
	c.comes()
	goes(t, lead, 4, says(200, "", "one\n"))
}

// Words: a row has api.MaxRow requests, and one more is read when there is a place.
func TestRow(t *testing.T) {
	for _, n := range []int{1, api.MaxRow - 1, api.MaxRow, api.MaxRow + 1, 3*api.MaxRow + 2} {
		c := three(t)
		lead := c.l[0]
		asks(t, lead, 5, rep(req("DELETE", "/one/k"), n), "")
		if jobs := lead.Gate().Jobs(); jobs != min(n, api.MaxRow) {
			t.Errorf("%d requests: %d are asked for", n, jobs)
		}
		want := ""
		for i := range n {
			want += says(200, "", "", "x-version: "+num(3+i))
		}
		c.comes()
		goes(t, lead, 5, want)
		if jobs := lead.Gate().Jobs(); jobs != 0 {
			t.Errorf("%d requests: %d wait", n, jobs)
		}
	}
	// What is answered, but not the first of the row, has its place in it.
	c := three(t)
	lead := c.l[0]
	asks(t, lead, 5, req("DELETE", "/one/k")+rep(req("POST", "/"), api.MaxRow-1)+req("PUT", "/two")+req("PUT", "/six"), "")
	if jobs := lead.Gate().Jobs(); jobs != 1 {
		t.Errorf("%d are asked for", jobs)
	}
	c.comes()
	goes(t, lead, 5, says(200, "", "", "x-version: 3")+rep(wrong(405, "", api.ErrWay), api.MaxRow-1)+says(200, "", "")+says(200, "", ""))
}

// num is a number in digits.
func num(n int) string {
	s := ""
	for ; n > 0; n /= 10 {
		s = string(rune('0'+n%10)) + s
	}
	return s
}

// Words: answers go out in the order of the row, each as soon as all ahead of it have.
func TestOrder(t *testing.T) {
	c := three(t)
	lead := c.l[0]
	asks(t, lead, 0, req("PUT", "/one/k", "hi")+req("POST", "/")+req("GET", "/one")+"BREW / HTTP/1.1\r\n"+req("PUT", "/two"), "")
	isOpen(t, lead, 0, true)
	// The listing is answered ahead of the object, which waits for notes.
	msgs, notes := lead.Sent()
	for _, m := range msgs {
		c.l[m.To].Step(m)
	}
	for _, s := range c.l[1:] {
		back, _ := s.Sent()
		for _, m := range back {
			lead.Step(m)
		}
	}
	if lead.Gate().Jobs() != 1 {
		t.Fatalf("%d requests wait", lead.Gate().Jobs())
	}
	goes(t, lead, 0, "")
	for _, n := range notes {
		c.l[n.To].Hear(n)
	}
	c.comes()
	goes(t, lead, 0, says(200, "", "", "x-version: 3", "etag: "+sumOf("hi"))+wrong(405, "", api.ErrWay)+says(200, "", "")+wrong(501, "last", api.ErrMethod))
	isOpen(t, lead, 0, false)
	goes(t, lead, 0, "")
}

// Promise 22.1: answers go out, and requests are read, behind Tick, Step and Hear alike.
func TestBehindEach(t *testing.T) {
	// Step: an entry is agreed on, and the next requests are asked for.
	c := three(t)
	lead := c.l[0]
	lead.Bytes(0, rep(req("DELETE", "/one/k"), api.MaxRow+1))
	lead.Sent()
	lead.Step(api.Msg{Kind: api.MsgAppended, From: 1, To: 0, Term: 1, Index: 3, Yes: true})
	goes(t, lead, 0, says(200, "", "", "x-version: 3"))
	if n := lead.Gate().Jobs(); n != api.MaxRow {
		t.Errorf("behind Step %d requests wait", n)
	}
	// Hear: an extent comes.
	c = three(t)
	lead = c.l[0]
	lead.Bytes(0, req("PUT", "/one/k", "hi"))
	c.comes()
	goes(t, lead, 0, says(200, "", "", "x-version: 3", "etag: "+sumOf("hi")))
	for _, name := range c.disks[0].Names() {
		if strings.HasPrefix(name, "e.") {
			c.disks[0].Remove(name)
		}
	}
	asked := req("GET", "/one/k") + rep(req("POST", "/"), api.MaxRow-1) + req("PUT", "/two")
	lead.Bytes(0, asked)
	msgs, _ := lead.Sent()
	for _, m := range msgs {
		c.l[m.To].Step(m)
		back, _ := c.l[m.To].Sent()
		for _, b := range back {
			lead.Step(b)
		}
	}
	_, notes := lead.Sent()
	if len(notes) != 2 || notes[0].Kind != api.NoteFetch {
		t.Fatalf("asked for %v", notes)
	}
	goes(t, lead, 0, "")
	lead.Hear(api.Note{Kind: api.NoteFetched, From: 1, To: 0, ID: notes[0].ID, Data: "hi", Yes: true})
	goes(t, lead, 0, says(200, "", "hi", "x-version: 3", "etag: "+sumOf("hi"))+rep(wrong(405, "", api.ErrWay), api.MaxRow-1))
	if n := lead.Gate().Jobs(); n != 1 {
		t.Errorf("behind Hear %d requests wait", n)
	}
	// Tick: patience is over.
	c = three(t)
	lead = c.l[0]
	lead.Bytes(0, rep(req("DELETE", "/one/k"), api.MaxRow)+req("GET", "/"))
	lead.Sent()
	for range gate.Patience - 1 {
		lead.Tick(0)
		goes(t, lead, 0, "")
	}
	lead.Tick(0)
	goes(t, lead, 0, rep(wrong(503, "", api.ErrBusy), api.MaxRow)+wrong(307, "", api.ErrLeader))
}

// Promise 22.1: a connection that is shut is open and empty anew, and what it had comes to nobody.
func TestShut(t *testing.T) {
	c := three(t)
	lead := c.l[0]
	lead.Bytes(0, req("DELETE", "/one/k")+req("DELETE", "/one/k")+"GET / HT")
	lead.Bytes(1, req("DELETE", "/one/k"))
	if e := lead.Shut(0); e != api.OK {
		t.Fatalf("Shut: %v", e)
	}
	isOpen(t, lead, 0, true)
	lead.Bytes(0, req("GET", "/"))
	if n := lead.Gate().Jobs(); n != 4 {
		t.Errorf("%d requests wait", n)
	}
	c.comes()
	goes(t, lead, 0, says(200, "", "one\n"))
	goes(t, lead, 1, says(200, "", "", "x-version: 5"))
	// What had gone out, and was not asked for, is forgotten; one that is shut by a last one is open anew.
	s := filled(t)
	s.Bytes(3, req("GET", "/", "connection: close"))
	isOpen(t, s, 3, false)
	if e := s.Shut(3); e != api.OK {
		t.Fatalf("Shut: %v", e)
	}
	isOpen(t, s, 3, true)
	goes(t, s, 3, "")
	asks(t, s, 3, req("GET", "/"), says(200, "", "one\n"))
	// A last one that waits is forgotten, too, and so is an error of the reader behind it.
	c = three(t)
	lead = c.l[0]
	lead.Bytes(0, req("PUT", "/two")+"BREW / HTTP/1.1\r\n")
	lead.Shut(0)
	lead.Shut(0)
	asks(t, lead, 0, req("POST", "/"), wrong(405, "", api.ErrWay))
	c.comes()
	goes(t, lead, 0, "")
	isOpen(t, lead, 0, true)
	lead.Bytes(0, req("GET", "/"))
	c.comes()
	goes(t, lead, 0, says(200, "", "one\ntwo\n")) // what was asked for is done all the same
}

// Promise 22.1: what went out is told once.
func TestOutTwice(t *testing.T) {
	s := filled(t)
	s.Bytes(0, req("GET", "/"))
	s.Bytes(0, req("GET", "/one"))
	goes(t, s, 0, says(200, "", "one\n")+says(200, "", "k k\n"))
	goes(t, s, 0, "")
	asks(t, s, 0, req("GET", "/"), says(200, "", "one\n"))
	goes(t, s, 0, "")
}

// Promise 22.3: eight connections side by side, each with its own answers.
func TestEight(t *testing.T) {
	for _, c := range []*cluster{three(t), {t: t, l: []*server.Server{filled(t)}}} {
		lead := c.l[0]
		var want [api.MaxConns]string
		for i := range api.MaxConns {
			name := "b-" + num(i+1)
			want[i] = says(200, "", "") + wrong(409, "", api.ErrThere) + wrong(405, "", api.ErrWay)
			b := req("PUT", "/"+name) + req("PUT", "/"+name) + req("POST", "/")
			if i == 3 {
				b, want[i] = b+"BREW / HTTP/1.1\r\n", want[i]+wrong(501, "last", api.ErrMethod)
			}
			lead.Bytes(i, b[:20])
			lead.Bytes(i, b[20:])
		}
		lead.Bytes(5, req("GET", "/", "connection: close"))
		want[5] += says(200, "last", allNames(c))
		c.comes()
		for i := range api.MaxConns {
			goes(t, lead, i, want[i])
			isOpen(t, lead, i, i != 3 && i != 5)
		}
	}
}

// allNames is the listing of the buckets that TestEight makes.
func allNames(c *cluster) string {
	names := ""
	for i := range api.MaxConns {
		names += "b-" + num(i+1) + "\n"
	}
	return names + "one\n"
}

// Promise 22.3: what one connection is sent does not change what another one is told.
func TestApart(t *testing.T) {
	script := req("GET", "/one/k") + req("HEAD", "/one/k") + req("GET", "/none") + req("GET", "/", "connection: close")
	s := filled(t)
	want := inPieces(s, 0, script)
	for _, other := range []string{"x\r\n", "GET / HTTP/1.1\r\n", "PUT /one/k HTTP/1.1\r\ncontent-length: 9\r\n\r\nbody", req("GET", "/", "connection: close"), rep(req("POST", "/"), 40), rep("x", 5000), req("GET", "/one")} {
		s := filled(t)
		for i := 1; i < api.MaxConns; i++ {
			s.Bytes(i, other)
		}
		half := len(script) / 2
		s.Bytes(0, script[:half])
		for i := 1; i < api.MaxConns; i++ {
			s.Bytes(i, other)
			if i%2 == 0 {
				s.Shut(i)
			}
		}
		s.Bytes(0, script[half:])
		goes(t, s, 0, want)
	}
}

// Words: a digest that no head can tell, which a token may have kept, is answered as an error.
func TestDigestOfNoHead(t *testing.T) {
	d := disk.New()
	out, _ := cmd.EncodeOut(api.Out{ID: 1, Sum: "a\r\nb"})
	digest, _ := cmd.Digest(api.Cmd{Kind: api.CmdMake, Bucket: "two"})
	table, e := token.Encode([]api.Held{{Token: "t", Sum: digest, Out: out, At: 1}})
	text := octet.Number(0) + octet.Text(table) + octet.Number(1)
	if _, bad := meta.Load(text); e != api.OK || bad != api.OK {
		t.Fatalf("no machine: %v, %v", e, bad)
	}
	shot.Save(d, api.Shot{Index: 1, Term: 1, Members: []int{0}, Data: text})
	s := serverOf(t, gateOf(t, d, 0, 0))
	for range 10 {
		s.Tick(0)
	}
	asks(t, s, 0, req("PUT", "/two", "x-token: t"), wrong(400, "", api.ErrForm))
	asks(t, s, 0, req("PUT", "/six"), says(200, "", ""))
}
