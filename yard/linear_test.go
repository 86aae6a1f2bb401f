package yard_test

import (
	"strconv"
	"strings"
	"testing"

	"stowage/api"
	"stowage/http"
	"stowage/model"
	"stowage/route"
)

// watch is a yard of which all that is asked and answered is noted, with the log that the nodes agree on.
type watch struct {
	*scene
	nodes  int
	log    []api.Entry
	asked  [api.MaxNodes][4][]asked // what is not answered, by nodes and connections
	events []api.Event
	sent   []api.Event // all that was asked, as if it were not answered: what was put may be there without an answer
}

// asked is a request.
type asked struct {
	from int
	w    api.Want
	head bool
	own  bool // it is answered by the server itself
}

// look takes what nodes agree on.
func (w *watch) look() {
	w.t.Helper()
	for i := range w.nodes {
		r := w.Gate(i).Node().Raft()
		for index := r.Base().Index + 1; index <= r.Commit(); index++ {
			entry, _ := r.Entry(index)
			switch {
			case index == len(w.log)+1:
				w.log = append(w.log, entry)
			case index > len(w.log):
				w.t.Fatalf("%d agrees on %d, which nobody was seen to lay", i, index)
			case w.log[index-1] != entry:
				w.t.Fatalf("%d agrees on another entry at %d", i, index)
			}
		}
	}
}

// act does an act, and notes what comes of it.
func (w *watch) act(a api.Act) {
	w.t.Helper()
	from := len(w.log)
	e := w.Do(a)
	w.look()
	if e == api.OK && a.Kind == api.ActShut && a.Conn < 4 {
		w.asked[a.Node][a.Conn] = nil
	}
	if e == api.OK && a.Kind == api.ActBytes {
		w.note(a, from)
	}
	for i := range w.nodes {
		if !w.Up(i) {
			w.asked[i] = [4][]asked{}
		}
		for conn := range 4 {
			w.take(i, conn)
		}
	}
}

// note notes the requests of an act.
func (w *watch) note(a api.Act, from int) {
	all, _, e := http.All(a.Text)
	if e != api.OK {
		w.t.Fatalf("these are no requests: %q", a.Text)
	}
	l := &w.asked[a.Node][a.Conn]
	for _, q := range all {
		want, e := route.Route(q)
		*l = append(*l, asked{from, want, q.Method == "HEAD", e != api.OK})
		w.sent = append(w.sent, api.Event{W: want, R: api.Reply{Code: api.ErrBusy}})
	}
}

// take takes the answers that went out on a connection.
func (w *watch) take(node, conn int) {
	w.t.Helper()
	out := w.Out(node, conn)
	for out != "" {
		l := &w.asked[node][conn]
		if len(*l) == 0 {
			w.t.Fatalf("at %d on %d: an answer to nobody: %q", node, conn, short(out))
		}
		q := (*l)[0]
		*l = (*l)[1:]
		var r api.Reply
		r, out = w.answer(out, q.head)
		// The answer to HEAD tells no error's number.
		if !q.own && (r.Code == api.OK || !q.head) {
			w.events = append(w.events, api.Event{From: q.from, To: len(w.log), W: q.w, R: r})
		}
	}
}

// answer reads an answer.
func (w *watch) answer(out string, head bool) (api.Reply, string) {
	w.t.Helper()
	lines, rest, whole := strings.Cut(out, "\r\n\r\n")
	var r api.Reply
	size := 0
	for _, line := range strings.Split(lines, "\r\n")[1:] {
		name, value, _ := strings.Cut(line, ": ")
		n, _ := strconv.Atoi(value)
		switch name {
		case "content-length":
			size = n
		case "x-version":
			r.ID = n
		case "etag":
			r.Sum = value
		}
	}
	if !whole || size > len(rest) {
		w.t.Fatalf("no answer: %q", short(out))
	}
	r.Body = rest[:size]
	if !strings.HasPrefix(lines, "HTTP/1.1 200 ") {
		n, _ := strconv.Atoi(strings.TrimSuffix(strings.TrimPrefix(r.Body, "error "), "\n"))
		r.Code, r.Body = api.Errno(n), ""
		if n == 0 {
			r.Code = -1
		}
	}
	return r, rest[size:]
}

// Promise P2: whatever is done to a yard, all that it answers fits the one log that its nodes agree on.
func TestLinear(t *testing.T) {
	codes := map[api.Errno]int{}
	reads := 0
	for seed := range 60 {
		d := newDrawn(9000 + 25*seed + 1)
		d.nodes = 3 + seed%3
		w := &watch{scene: newScene(t, d.nodes), nodes: d.nodes}
		w.act(tick(30))
		for range 300 {
			if i := d.Intn(d.nodes); d.Intn(40) == 0 && w.Up(i) {
				w.Plan(i, api.Fall{At: d.Intn(12), Keep: d.Intn(4), Torn: d.Intn(90)})
			}
			a := d.act(w.Leader())
			if a.Kind == api.ActBytes {
				if _, size, e := http.All(a.Text); e != api.OK || size < len(a.Text) {
					continue // no requests, or not whole ones
				}
			}
			if a.Kind != api.ActTick || a.N < 1 || a.N > 1000 {
				w.act(a)
				continue
			}
			for range a.N {
				w.act(tick(1)) // so that no entry is seen too late
			}
		}
		w.heal(d.nodes)
		for range 130 {
			w.act(tick(1))
		}
		if got := model.Judge(w.log, append(w.events, w.sent...)); got != -1 {
			t.Fatalf("seed %d: %d does not fit: %s", seed, got, short(w.events[got]))
		}
		m, _ := model.Behind(w.log, len(w.log))
		if w.Save(w.Leader()) != m.Save() {
			t.Fatalf("seed %d: the machine behind the log is another one", seed)
		}
		for _, v := range w.events {
			codes[v.R.Code]++
			if v.W.Kind == api.WantRead && v.R.Code == api.OK {
				reads++
			}
		}
	}
	for _, e := range []api.Errno{api.OK, api.ErrLeader, api.ErrBusy, api.ErrThere, api.ErrKey, api.ErrFull, api.ErrNone} {
		if codes[e] < 10 {
			t.Errorf("%v was answered %d times", e, codes[e])
		}
	}
	if codes[-1] != 0 || reads < 100 {
		t.Errorf("%d readings, and answers %v", reads, codes)
	}
}
