package server_test

import (
	"math/rand"
	"runtime"
	"strconv"
	"strings"
	"testing"
	"unsafe"

	"stowage/api"
	"stowage/disk"
	"stowage/gate"
	"stowage/http"
	"stowage/route"
)

// plain is a server of a node that leads alone, told plainly: all bytes of a connection are read anew each time.
type plain struct {
	g    *gate.Gate
	fed  [api.MaxConns]string
	told [api.MaxConns]int // how many requests were answered
	shut [api.MaxConns]bool
	out  [api.MaxConns]string
}

// bytes takes bytes of a connection.
func (p *plain) bytes(conn int, b string) api.Errno {
	if p.shut[conn] {
		return api.ErrShut
	}
	p.fed[conn] += b
	l, _, e := http.All(p.fed[conn])
	for _, q := range l[p.told[conn]:] {
		p.told[conn]++
		r := api.Reply{}
		w, wrong := route.Route(q)
		if wrong == api.OK {
			p.g.Ask(w)
			r = p.g.Replies()[0]
		} else {
			r.Code = wrong
		}
		p.answer(conn, r, q.Method == "HEAD", q.Close)
		if q.Close {
			return api.OK
		}
	}
	if e != api.OK {
		p.answer(conn, api.Reply{Code: e}, false, true)
	}
	return api.OK
}

// answer lets an answer go out.
func (p *plain) answer(conn int, r api.Reply, head, last bool) {
	lines := "HTTP/1.1 " + strconv.Itoa(route.Status(r.Code)) + " Status\r\n"
	body := r.Body
	if r.Code != api.OK {
		body = "error " + strconv.Itoa(int(r.Code)) + "\n"
	}
	if head {
		body = ""
	}
	lines += "content-length: " + strconv.Itoa(len(body)) + "\r\n"
	if r.ID > 0 {
		lines += "x-version: " + strconv.Itoa(r.ID) + "\r\n"
	}
	if len(r.Sum) > 0 {
		lines += "etag: " + r.Sum + "\r\n"
	}
	if r.Code == api.ErrLeader && r.Leader > -1 {
		lines += "x-leader: " + strconv.Itoa(r.Leader) + "\r\n"
	}
	if last {
		lines += "connection: close\r\n"
		p.shut[conn] = true
	}
	p.out[conn] += lines + "\r\n" + body
}

// script is drawn bytes of a connection: requests for the most part.
func script(r *rand.Rand, n int) string {
	var b strings.Builder
	key := func() string { return "/one/k" + strconv.Itoa(r.Intn(3)) }
	for range n {
		switch r.Intn(26) {
		case 0, 1:
			b.WriteString(req("PUT", "/one"))
		case 2:
			b.WriteString(req("DELETE", "/one"))
		case 3, 4, 5, 6:
			b.WriteString(req("PUT", key(), rep("x", r.Intn(3)*r.Intn(4000))))
		case 7, 8:
			b.WriteString(req("DELETE", key()))
		case 9, 10, 11, 12:
			b.WriteString(req("GET", key()))
		case 13, 14:
			b.WriteString(req("HEAD", key()))
		case 15:
			b.WriteString(req("GET", key()+"?version="+strconv.Itoa(r.Intn(20))))
		case 16:
			b.WriteString(req("GET", "/one?most="+strconv.Itoa(r.Intn(3))))
		case 17:
			b.WriteString("PUT " + key() + " HTTP/1.1\r\ntransfer-encoding: chunked\r\n\r\n3\r\nabc\r\n0\r\n\r\n")
		case 18:
			b.WriteString(req("PUT", key(), "x-token: t"+strconv.Itoa(r.Intn(4)), strconv.Itoa(r.Intn(3))))
		case 19:
			b.WriteString(req("POST", key()+"?uploads"))
		case 20:
			b.WriteString(req("GET", "/"))
		case 21:
			b.WriteString(req("BREW", "/")[:r.Intn(17)])
		case 22:
			if r.Intn(4) == 0 {
				b.WriteString(req("GET", "/", "connection: close"))
			}
		case 23:
			b.WriteString(req("POST", "/"))
		default:
			b.WriteString(req("GET", "/one"))
		}
	}
	return b.String()
}

// Promises 22.1 to 22.3: drawn bytes on all connections, in drawn pieces, are answered as the plain server does.
func TestAny(t *testing.T) {
	shuts, answers := 0, 0
	for seed := range 150 {
		r := rand.New(rand.NewSource(int64(seed)))
		s := alone(t)
		p := &plain{g: gateOf(t, disk.New(), 0, 0)}
		for range 10 {
			p.g.Tick(0)
		}
		var left [api.MaxConns]string
		for range 200 {
			conn := r.Intn(api.MaxConns)
			if left[conn] == "" {
				left[conn] = script(r, 1+r.Intn(20))
			}
			n := r.Intn(min(len(left[conn]), 1+r.Intn(600)) + 1)
			b := left[conn][:n]
			left[conn] = left[conn][n:]
			if got, want := s.Bytes(conn, b), p.bytes(conn, b); got != want {
				t.Fatalf("Bytes(%d, %q): %v, not %v", conn, short(b), got, want)
			}
			if r.Intn(3) == 0 {
				goes(t, s, conn, p.out[conn])
				answers += strings.Count(p.out[conn], "HTTP/1.1 ")
				p.out[conn] = ""
			}
			isOpen(t, s, conn, !p.shut[conn])
			if p.shut[conn] && r.Intn(4) == 0 || r.Intn(60) == 0 {
				s.Shut(conn)
				p.fed[conn], p.told[conn], p.shut[conn], p.out[conn], left[conn] = "", 0, false, "", ""
				shuts++
			}
			if r.Intn(9) == 0 {
				s.Tick(0)
				p.g.Tick(0)
			}
		}
		for conn := range api.MaxConns {
			goes(t, s, conn, p.out[conn])
		}
		if s.Gate().Machine().Save() != p.g.Machine().Save() {
			t.Fatalf("seed %d: another machine", seed)
		}
	}
	if shuts < 100 || answers < 5000 {
		t.Errorf("too little happened: %d, %d", shuts, answers)
	}
}

// Promise 22.2: however bytes come in pieces the same answers go out: whole, byte by byte, cut at each place and at drawn ones; at a node alone, and in a cluster.
func TestPieces(t *testing.T) {
	text := req("PUT", "/one") + req("PUT", "/one/k", "hi") + req("HEAD", "/one/k") + req("GET", "/one/k") + "PUT /one/c HTTP/1.1\r\ntransfer-encoding: chunked\r\n\r\n3;x\r\nabc\r\n0\r\nt: v\r\n\r\n" + req("GET", "/one/c") + req("POST", "/") + req("DELETE", "/one/k") + req("GET", "/one") + req("GET", "/one/k") + "BREW / HTTP/1.1\r\n" + req("PUT", "/two")
	want := inPieces(alone(t), 0, text)
	if strings.Count(want, "HTTP/1.1 ") != 11 || !strings.HasSuffix(want, wrong(501, "last", api.ErrMethod)) {
		t.Fatalf("whole: %q", want)
	}
	var each []int
	for i := range len(text) {
		each = append(each, i)
		if got := inPieces(alone(t), 0, text, i); got != want {
			t.Fatalf("cut at %d: %q", i, got)
		}
	}
	if got := inPieces(alone(t), 0, text, each...); got != want {
		t.Fatalf("byte by byte: %q", got)
	}
	// In a cluster, where nothing is answered at once.
	cluster := func(places ...int) string {
		c := three(t)
		out := inPieces(c.l[0], 1, text, places...)
		c.comes()
		return out + c.l[0].Out(1)
	}
	want = cluster()
	if strings.Count(want, "HTTP/1.1 ") != 11 {
		t.Fatalf("whole: %q", want)
	}
	if got := cluster(each...); got != want {
		t.Fatalf("byte by byte: %q, not %q", got, want)
	}
	for i := 0; i < len(text); i += 7 {
		if got := cluster(i, min(i+40, len(text))); got != want {
			t.Fatalf("cut at %d: %q, not %q", i, got, want)
		}
	}
}

// Promise 22.2: never more answers than requests, whatever comes.
func TestNeverMore(t *testing.T) {
	r := rand.New(rand.NewSource(5))
	for range 40 {
		c := three(t)
		text := script(r, 30)
		requests, _, e := http.All(text)
		most := len(requests)
		if e != api.OK {
			most++ // what is no request is answered, too
		}
		out := ""
		for from := 0; from < len(text); {
			to := min(len(text), from+1+r.Intn(300))
			c.l[0].Bytes(2, text[from:to])
			from = to
			switch r.Intn(3) {
			case 0:
				c.comes()
			case 1:
				c.ticks(1)
			}
			out += c.l[0].Out(2)
			if n := strings.Count(out, "HTTP/1.1 "); n > most {
				t.Fatalf("%d answers to %d requests", n, most)
			}
		}
		c.ticks(5)
		out += c.l[0].Out(2)
		n := strings.Count(out, "HTTP/1.1 ")
		if c.l[0].Open(2) && n != most || !c.l[0].Open(2) && !strings.Contains(out, "connection: close") || c.l[0].Gate().Jobs() != 0 {
			t.Errorf("%d answers to %d requests; open %v", n, most, c.l[0].Open(2))
		}
	}
}

// Rule R3: what goes out is of its own memory, and what comes is not kept.
func TestSharesNothing(t *testing.T) {
	s := filled(t)
	in := []string{strings.Clone(req("GET", "/one/k")), strings.Clone(req("GET", "/one/k")), strings.Clone(req("PUT", "/one/k", rep("x", 100)))}
	var all []string
	for i, b := range in {
		s.Bytes(i, b)
		all = append(all, b, s.Out(i))
		s.Bytes(i, b)
		all = append(all, s.Out(i))
	}
	for i, a := range all {
		for j, b := range all[:i] {
			x, y := uintptr(unsafe.Pointer(unsafe.StringData(a))), uintptr(unsafe.Pointer(unsafe.StringData(b)))
			if same := i%3 == 0 && j%3 == 0 && a == b; !same && x < y+uintptr(len(b)) && y < x+uintptr(len(a)) {
				t.Errorf("%d and %d have one memory", i, j)
			}
		}
	}
	runtime.KeepAlive(all)
}

// Any bytes are answered as the plain server does, whole and cut in two.
func FuzzBytes(f *testing.F) {
	f.Add("GET / HTTP/1.1\r\n\r\n", 3)
	f.Add(req("PUT", "/one")+req("PUT", "/one/k", "hi")+req("GET", "/one/k"), 40)
	f.Add("BREW / HTTP/1.1\r\n", 0)
	f.Add(req("GET", "/", "connection: close")+"x", 5)
	f.Fuzz(func(t *testing.T, b string, at int) {
		if at < 0 || at > len(b) || len(b) > 10000 {
			return
		}
		p := &plain{g: gateOf(t, disk.New(), 0, 0)}
		for range 10 {
			p.g.Tick(0)
		}
		p.bytes(0, b)
		for _, places := range [][]int{nil, {at}} {
			s := alone(t)
			if out := inPieces(s, 0, b, places...); out != p.out[0] || s.Open(0) == p.shut[0] {
				t.Errorf("%q at %v: %q, not %q", b, places, out, p.out[0])
			}
		}
	})
}
