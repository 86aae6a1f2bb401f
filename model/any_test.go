package model_test

import (
	"fmt"
	"math/rand"
	"testing"

	"stowage/api"
	"stowage/disk"
	"stowage/extent"
	"stowage/gate"
	"stowage/model"
	"stowage/node"
)

// drawn draws logs and events.
type drawn struct {
	*rand.Rand
	bodies []string
}

// newDrawn has bodies of no, one and several extents, some of which have extents in common.
func newDrawn(seed int64) *drawn {
	x := bytesOf(api.MaxExtent)
	return &drawn{rand.New(rand.NewSource(seed)), []string{"", "a", "b", x + "a", x + "b", x + x, "long " + x + x}}
}

// body is one of the bodies.
func (d *drawn) body() string { return d.bodies[d.Intn(len(d.bodies))] }

// key is a key, id a number of a version or an upload.
func (d *drawn) key() string { return []string{"k", "a/b"}[d.Intn(2)] }

func (d *drawn) id() int { return d.Intn(12) }

// order is a command; some may not be.
func (d *drawn) order() api.Want {
	w := api.Want{Kind: api.WantCmd}
	switch d.Intn(12) {
	case 0, 1:
		w = makes("one")
	case 2:
		w = drops("one")
	case 3, 4, 5:
		w = puts(d.key(), d.body())
	case 6:
		w = marks(d.key())
	case 7:
		w = cmd(api.Cmd{Kind: api.CmdErase, Bucket: "one", Key: d.key(), ID: d.id()})
	case 8:
		w = begins(d.key())
	case 9:
		w = lays(d.key(), d.id(), 1, d.body())
	case 10:
		w = joins(d.key(), d.id(), api.Pick{N: 1, Sum: sumOf(d.body())})
	case 11:
		w = cmd(api.Cmd{Kind: api.CmdExpire, ID: d.id()})
	}
	if d.Intn(3) == 0 && w.Cmd.Kind != api.CmdExpire {
		w = withToken(w, fmt.Sprint("t", d.Intn(2)))
	}
	return w
}

// log is a log: it begins with a bucket, mostly.
func (d *drawn) log() []api.Entry {
	var log []api.Entry
	for range d.Intn(16) {
		c := command(d.order())
		if len(log) == 0 && d.Intn(8) > 0 {
			c = makes("one").Cmd
		}
		switch d.Intn(10) {
		case 0:
			log = append(log, noop())
		case 1:
			log = append(log, conf())
		case 2:
			log = append(log, api.Entry{Data: rep("\x00", d.Intn(2))})
		default:
			if text, is := encoded(c); is {
				log = append(log, api.Entry{Kind: api.EntryData, Data: text})
			}
		}
	}
	return log
}

// want is something that is wanted.
func (d *drawn) want() api.Want {
	switch d.Intn(12) {
	case 0:
		return buckets()
	case 1:
		return keys()
	case 2:
		return uploads()
	case 3:
		return partsOf(d.key(), d.id())
	case 4, 5:
		return reads(d.key(), 0)
	case 6:
		return reads(d.key(), d.id())
	case 7:
		return heads(d.key(), d.Intn(2)*d.id())
	case 8:
		return nodes()
	}
	return d.order()
}

// event is an event that often fits, and else fails by one thing.
func (d *drawn) event(log []api.Entry) api.Event {
	from := d.Intn(len(log) + 1)
	to := from + d.Intn(len(log)+1-from)
	v := event(from, to, d.want(), d.reply())
	at := from + d.Intn(to-from+1)
	switch v.W.Kind {
	case api.WantCmd:
		if at == from {
			break
		}
		if c, is := decoded(log[at-1]); is && d.Intn(4) > 0 {
			v.W.Cmd, v.W.Body = c, d.bodyOf(c.Sum)
		}
		o := plainBehind(log, at-1).Apply(at, command(v.W))
		v.R = api.Reply{Code: api.Errno(o.Code), ID: o.ID, Sum: o.Sum}
	case api.WantNode:
	default:
		r, pieces := gate.Tell(plainBehind(log, at), v.W)
		if v.R = r; len(pieces) > 0 {
			v.R.Body = d.bodyOf(r.Sum)
		}
	}
	if d.Intn(6) == 0 {
		d.spoil(&v)
	}
	return v
}

// bodyOf is the body of a digest.
func (d *drawn) bodyOf(sum string) string {
	for _, body := range d.bodies {
		if sumOf(body) == sum {
			return body
		}
	}
	return ""
}

// reply is an answer that needs no entry, mostly.
func (d *drawn) reply() api.Reply {
	l := []api.Errno{api.OK, api.ErrLeader, api.ErrBusy, api.ErrDown, api.ErrFull, api.ErrThere, api.ErrNone, api.ErrArg, api.ErrConf, api.ErrKey}
	return api.Reply{Tag: d.Intn(3), Code: l[d.Intn(len(l))], Leader: d.Intn(3) - 1}
}

// spoil changes one thing of an event.
func (d *drawn) spoil(v *api.Event) {
	switch d.Intn(9) {
	case 0:
		v.From += d.Intn(5) - 2
	case 1:
		v.To += d.Intn(5) - 2
	case 2:
		v.R = d.reply()
	case 3:
		v.R.ID += d.Intn(3) - 1
	case 4:
		v.R.Sum = sumOf(d.body())
	case 5:
		v.R.Body = d.body()
	case 6:
		v.R.Body += "\n"
	case 7:
		v.W = d.want()
	case 8:
		v.W.Kind = d.Intn(10) - 1
	}
}

// Promises 23.1 and 23.2: drawn events are judged as the chapter says it.
func TestAgainstPlain(t *testing.T) {
	var kinds [2][9]int // how often events of each kind were found to fit, and not
	for seed := range 4000 {
		d := newDrawn(int64(seed))
		log := d.log()
		var events []api.Event
		for range d.Intn(10) {
			events = append(events, d.event(log))
		}
		want := -1
		for i, v := range events {
			is := plainFits(log, events, v)
			if kind := v.W.Kind; 0 < kind && kind < 9 {
				kinds[map[bool]int{true: 1}[is]][kind]++
			}
			if !is && want < 0 {
				want = i
			}
		}
		if got := model.Judge(log, events); got != want {
			t.Fatalf("seed %d: %d, not %d: %s", seed, got, want, short(events))
		}
	}
	for kind := api.WantBuckets; kind <= api.WantNode; kind++ {
		if kinds[0][kind] < 50 || kinds[1][kind] < 100 {
			t.Errorf("the kind %d fitted %d times, %d times not", kind, kinds[1][kind], kinds[0][kind])
		}
	}
}

// Promise 23.2: what a gate answers, alone, fits its log.
func TestGate(t *testing.T) {
	for seed := range 40 {
		d := newDrawn(int64(seed))
		g := newGate(t)
		var log []api.Entry
		var events []api.Event
		for range 60 {
			w := d.want()
			w.Add = false // one more member would not answer
			from := len(log)
			if _, e := g.Ask(w); e != api.OK {
				continue // no request wants that
			}
			r := g.Node().Raft()
			for r.Commit() > len(log) {
				entry, _ := r.Entry(len(log) + 1)
				log = append(log, entry)
			}
			for _, r := range g.Replies() {
				events = append(events, event(from, len(log), w, r))
			}
		}
		if got := model.Judge(log, events); got != -1 || len(events) < 30 {
			t.Errorf("seed %d: of %d %d does not fit: %s", seed, len(events), got, short(events[max(got, 0)]))
		}
		if m, e := model.Behind(log, len(log)); e != api.OK || m.Save() != g.Machine().Save() {
			t.Errorf("seed %d: the machine behind the log is another one: %v", seed, e)
		}
	}
}

// newGate is a gate of a node that leads alone.
func newGate(t *testing.T) *gate.Gate {
	t.Helper()
	d := disk.New()
	n, e := node.Open(d, 0, []int{0}, 0)
	if e != api.OK {
		t.Fatalf("node.Open: %v", e)
	}
	x, _, e := extent.Open(d)
	if e != api.OK {
		t.Fatalf("extent.Open: %v", e)
	}
	g, e := gate.New(n, x)
	if e != api.OK {
		t.Fatalf("gate.New: %v", e)
	}
	for range 10 {
		g.Tick(0)
	}
	return g
}

// FuzzJudge holds drawn logs with bytes of any kind in them against the plain judge.
func FuzzJudge(f *testing.F) {
	f.Add(int64(1), "", 0, 0, 0)
	f.Add(int64(2), lies(makes("one")).Data, 1, -1, 2)
	f.Fuzz(func(t *testing.T, seed int64, data string, from, to, kind int) {
		d := newDrawn(seed)
		log := append(d.log(), api.Entry{Kind: kind, Data: data})
		log = append(log, d.log()...)
		events := []api.Event{d.event(log), d.event(log), d.event(log)}
		spoilt := d.event(log)
		spoilt.From, spoilt.To, spoilt.W.Key, spoilt.W.Body = from, to, data, data
		events = append(events, spoilt)
		want := -1
		for i := len(events) - 1; i >= 0; i-- {
			if !plainFits(log, events, events[i]) {
				want = i
			}
		}
		if got := model.Judge(log, events); got != want {
			t.Fatalf("%d, not %d: %s", got, want, short(events))
		}
	})
}
