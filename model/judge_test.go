package model_test

import (
	"math"
	"testing"

	"stowage/api"
	"stowage/model"
)

// unlikely are codes that no refusal ahead of the log has.
var unlikely = []api.Errno{api.ErrLong, api.ErrForm, api.ErrEnd, api.ErrSum, api.ErrName, api.ErrGap, api.ErrCorrupt, api.ErrMark, api.ErrMany, api.ErrPart, api.ErrSmall, api.ErrClash, api.ErrFilled, api.ErrKey, api.ErrVersion, api.ErrUpload, api.ErrBad, api.ErrBody, api.ErrHead, api.ErrMethod, api.ErrShut, api.ErrWay, -1, 999, 1000, math.MaxInt, math.MinInt}

// more are answers that say something beside a code.
func more(e api.Errno) []api.Reply {
	return []api.Reply{{Code: e, ID: 1}, {Code: e, ID: -1}, {Code: e, Sum: "0"}, {Code: e, Body: "\n"}, {Code: e, ID: 2, Sum: sumOf(""), Body: "x"}}
}

// all are wants of all kinds, and of none.
func all() []api.Want {
	return append(readings(), makes("one"), puts("k", "hi"), cmd(api.Cmd{}), nodes(), api.Want{}, api.Want{Kind: 8}, api.Want{Kind: -1})
}

// Promise 23.1: nothing does not fit where there is nothing.
func TestNothing(t *testing.T) {
	for _, log := range [][]api.Entry{nil, {}, logOf(makes("one"))} {
		for _, events := range [][]api.Event{nil, {}} {
			if got := model.Judge(log, events); got != -1 {
				t.Errorf("%d entries, no events: %d", len(log), got)
			}
		}
	}
	fit(t, "an empty log", nil, event(0, 0, buckets(), done(0, "", "")))
	unfit(t, "an empty log", nil, event(0, 0, makes("one"), done(0, "", "")))
	unfit(t, "behind an empty log", nil, event(0, 1, buckets(), done(0, "", "")))
}

// Example 1 of the chapter.
func TestExample(t *testing.T) {
	log := logOf(makes("one"))
	fit(t, "(0, 1)", log, event(0, 1, makes("one"), done(0, "", "")))
	unfit(t, "(1, 1)", log, event(1, 1, makes("one"), done(0, "", "")))
	unfit(t, "(0, 0)", log, event(0, 0, makes("one"), done(0, "", "")))
}

// Words: From is from 0 to To, and To at most the length of the log, whatever was answered.
func TestBounds(t *testing.T) {
	log := append(logOf(makes("one"), makes("two")), conf())
	bounds := []int{math.MinInt, -2, -1, 0, 1, 2, 3, 4, 5, math.MaxInt}
	for _, w := range all() {
		for _, from := range bounds {
			for _, to := range bounds {
				v := event(from, to, w, refused(api.ErrBusy))
				if 0 <= from && from <= to && to <= 3 {
					fit(t, "within", log, v)
				} else {
					unfit(t, "beyond", log, v)
				}
			}
		}
	}
	for _, from := range bounds {
		for _, to := range bounds {
			is := 0 <= from && from <= to && to <= 3
			for _, c := range []struct {
				w api.Want
				r api.Reply
				f bool
			}{
				{nodes(), refused(api.ErrThere), is}, {nodes(), done(0, "", ""), is && from < 3 && to == 3},
				{makes("one"), refused(api.ErrFull), is}, {makes("two"), done(0, "", ""), is && from < 2 && to >= 2},
				{buckets(), done(0, "", "one\ntwo\n"), is && to >= 2}, {buckets(), done(0, "", ""), is && from == 0},
			} {
				if c.f {
					fit(t, "within", log, event(from, to, c.w, c.r))
				} else {
					unfit(t, "beyond", log, event(from, to, c.w, c.r))
				}
			}
		}
	}
}

// Words: ErrLeader, ErrBusy and ErrDown fit anything, if nothing else is told.
func TestRefusals(t *testing.T) {
	log := logOf(makes("one"))
	for _, w := range all() {
		for _, e := range []api.Errno{api.ErrLeader, api.ErrBusy, api.ErrDown} {
			fit(t, "a refusal", log, event(0, 0, w, refused(e)))
			fit(t, "a refusal", log, event(0, 1, w, refused(e)))
			for _, r := range more(e) {
				unfit(t, "a refusal that tells more", log, event(0, 1, w, r))
			}
		}
		for _, e := range append([]api.Errno{api.ErrLeader - 1, api.ErrBusy + 1, api.ErrDown - 1, api.ErrGap}, unlikely...) {
			if e == api.ErrKey || e == api.ErrUpload {
				continue // a reading's
			}
			unfit(t, "no refusal", log, event(1, 1, w, refused(e)))
		}
	}
}

// Words: another configuration with OK has its entry between.
func TestNodeDone(t *testing.T) {
	log := []api.Entry{noop(), conf(), lies(makes("one")), conf(), noop()}
	for from := range 6 {
		for to := from; to <= 5; to++ {
			v := event(from, to, nodes(), done(0, "", ""))
			if from < 2 && to >= 2 || from < 4 && to >= 4 {
				fit(t, "an entry between", log, v)
				for _, r := range more(api.OK) {
					unfit(t, "an answer that tells more", log, event(from, to, nodes(), r))
				}
			} else {
				unfit(t, "no entry between", log, v)
			}
		}
	}
	for _, kind := range []int{api.EntryData, api.EntryNoop, 3, -1, 255} {
		log := []api.Entry{{Term: 1, Kind: kind, Data: conf().Data}}
		unfit(t, "an entry of another kind", log, event(0, 1, nodes(), done(0, "", "")))
	}
	empty := []api.Entry{{Kind: api.EntryConf}}
	fit(t, "an entry that says nothing", empty, event(0, 1, nodes(), done(0, "", "")))
	fit(t, "a want that says no node", empty, event(0, 1, api.Want{Kind: api.WantNode, Node: -9, Body: "x"}, done(0, "", "")))
	unfit(t, "another want", empty, event(0, 1, makes("one"), done(0, "", "")))
}

// Words: another configuration that was refused needs no entry.
func TestNodeRefused(t *testing.T) {
	for _, log := range [][]api.Entry{nil, {conf(), conf()}} {
		for _, e := range []api.Errno{api.ErrThere, api.ErrNone, api.ErrArg, api.ErrConf, api.ErrFull} {
			fit(t, "a refusal", log, event(0, len(log), nodes(), refused(e)))
			fit(t, "a refusal", log, event(len(log), len(log), nodes(), refused(e)))
			for _, r := range more(e) {
				unfit(t, "a refusal that tells more", log, event(0, len(log), nodes(), r))
			}
		}
		for _, e := range unlikely {
			unfit(t, "no refusal", log, event(0, len(log), nodes(), refused(e)))
		}
	}
}

// Words: a command for which there was no room needs no entry; with no other code.
func TestCommandFull(t *testing.T) {
	log := logOf(makes("one"))
	for _, w := range []api.Want{makes("one"), makes("two"), puts("k", "hi"), cmd(api.Cmd{}), cmd(api.Cmd{Kind: 77})} {
		for _, from := range []int{0, 1} {
			fit(t, "no room", log, event(from, 1, w, refused(api.ErrFull)))
			for _, r := range more(api.ErrFull) {
				unfit(t, "no room, and more", log, event(from, 1, w, r))
			}
		}
		for _, e := range append([]api.Errno{api.ErrThere, api.ErrNone, api.ErrArg, api.ErrConf}, unlikely...) {
			unfit(t, "another code", log, event(0, 1, w, refused(e)))
		}
	}
	for _, w := range readings() {
		unfit(t, "a reading without room", log, event(0, 1, w, refused(api.ErrFull)))
	}
}

// Words: a command stands above From, up to To.
func TestCommandBetween(t *testing.T) {
	log := []api.Entry{noop(), lies(makes("one")), noop(), lies(marks("k")), conf(), lies(marks("k"))}
	for from := range 7 {
		for to := from; to <= 6; to++ {
			for _, c := range []struct {
				w  api.Want
				at int
				id int
			}{{makes("one"), 2, 0}, {marks("k"), 4, 4}, {marks("k"), 6, 6}} {
				v := event(from, to, c.w, done(c.id, "", ""))
				if from < c.at && c.at <= to {
					fit(t, "it stands there", log, v)
				} else {
					unfit(t, "it does not stand there", log, v)
				}
			}
		}
	}
}

// Words: its outcome there has the Code, ID and Sum of the answer, which has no Body.
func TestCommandOutcome(t *testing.T) {
	log := append(logOf(makes("one"), puts("k", "hi"), makes("one"), drops("one"), drops("two")), noop())
	for at, c := range []struct {
		w api.Want
		r api.Reply
	}{
		{makes("one"), done(0, "", "")}, {puts("k", "hi"), done(2, sumOf("hi"), "")}, {makes("one"), refused(api.ErrThere)},
		{drops("one"), refused(api.ErrFilled)}, {drops("two"), refused(api.ErrNone)},
	} {
		fit(t, "the outcome", log, event(at, at+1, c.w, c.r))
		for _, change := range []func(r *api.Reply){
			func(r *api.Reply) { r.Code++ }, func(r *api.Reply) { r.Code = -r.Code - 1 }, func(r *api.Reply) { r.ID++ }, func(r *api.Reply) { r.ID-- },
			func(r *api.Reply) { r.Sum += "0" }, func(r *api.Reply) { r.Sum = sumOf("ho") }, func(r *api.Reply) { r.Body = "x" }, func(r *api.Reply) { r.Body = c.w.Body + "\n" },
		} {
			r := c.r
			change(&r)
			unfit(t, "another outcome", log, event(at, at+1, c.w, r))
			unfit(t, "another outcome", log, event(0, 6, c.w, r))
		}
	}
	unfit(t, "the outcome of another place", log, event(0, 1, makes("one"), refused(api.ErrThere)))
	unfit(t, "the outcome of another place", log, event(2, 3, makes("one"), done(0, "", "")))
	fit(t, "the outcome of one of two places", log, event(0, 3, makes("one"), refused(api.ErrThere)))
	fit(t, "the outcome of one of two places", log, event(0, 3, makes("one"), done(0, "", "")))
}

// Words: its entry is of the kind EntryData, and has just its text.
func TestCommandText(t *testing.T) {
	w := makes("one")
	for _, kind := range []int{api.EntryNoop, api.EntryConf, 3, -1} {
		entry := lies(w)
		entry.Kind = kind
		unfit(t, "an entry of another kind", []api.Entry{entry}, event(0, 1, w, done(0, "", "")))
		unfit(t, "an entry of another kind", []api.Entry{entry}, event(0, 1, w, refused(api.ErrArg)))
	}
	text := lies(w).Data
	for _, data := range []string{"", text + "\x00", text[1:], text[:len(text)-1], "x"} {
		log := []api.Entry{{Term: 1, Data: data}}
		unfit(t, "another text", log, event(0, 1, w, done(0, "", "")))
		unfit(t, "another text", log, event(0, 1, w, refused(api.ErrArg)))
	}
	for _, other := range []api.Want{makes("two"), withToken(w, "t"), drops("one")} {
		unfit(t, "another command", logOf(other), event(0, 1, w, done(0, "", "")))
	}
	old := lies(w)
	old.Term = 7
	fit(t, "another term", []api.Entry{old}, event(0, 1, w, done(0, "", "")))
}

// A command that may not be has no text: no entry is its, also none that says nothing.
func TestNoCommand(t *testing.T) {
	long := puts("k", rep("x", api.MaxObject+1))
	given := makes("one")
	given.Cmd.Sum = sumOf("")
	for _, w := range []api.Want{cmd(api.Cmd{}), cmd(api.Cmd{Kind: 77}), makes(""), makes("_"), puts("", "hi"), lays("k", 0, 1, "hi"), lays("k", 1, 101, "hi"), long, given} {
		for _, data := range []string{"", "\x00", "x", lies(makes("one")).Data} {
			log := []api.Entry{{Term: 1, Data: data}}
			unfit(t, "no command", log, event(0, 1, w, refused(api.ErrArg)))
			unfit(t, "no command", log, event(0, 1, w, done(0, "", "")))
		}
	}
}

// Words: the text has the Pieces and the Sum of the body, of 0, 1 and many extents, whatever the command itself says of them.
func TestCommandBodies(t *testing.T) {
	for _, n := range []int{0, 1, api.MaxExtent - 1, api.MaxExtent, api.MaxExtent + 1, 2 * api.MaxExtent, 5*api.MaxExtent + 7} {
		body := bytesOf(n)
		log := logOf(makes("one"), puts("k", body), begins("k"), lays("k", 3, 2, body))
		put, part := puts("k", body), lays("k", 3, 2, body)
		fit(t, "a put", log, event(1, 2, put, done(2, sumOf(body), "")))
		fit(t, "a part", log, event(3, 4, part, done(2, sumOf(body), "")))
		put.Cmd.Sum, part.Cmd.Sum = "none", sumOf("other")
		put.Cmd.Pieces = []api.Piece{{ID: "none", Size: -1}}
		fit(t, "a put that says other pieces", log, event(1, 2, put, done(2, sumOf(body), "")))
		fit(t, "a part that says another digest", log, event(3, 4, part, done(2, sumOf(body), "")))
		put, part = puts("k", body+"x"), lays("k", 3, 2, body+"x")
		unfit(t, "a put of another body", log, event(1, 2, put, done(2, sumOf(body), "")))
		unfit(t, "a part of another body", log, event(3, 4, part, done(2, sumOf(body), "")))
		unfit(t, "the outcome of another body", log, event(1, 2, put, done(2, sumOf(body+"x"), "")))
	}
	same := rep("y", 3*api.MaxExtent)
	fit(t, "a put of equal extents", logOf(makes("one"), puts("k", same)), event(0, 2, puts("k", same), done(2, sumOf(same), "")))
}

// The body of a command that has none counts for nothing.
func TestCommandWithoutBody(t *testing.T) {
	w := makes("one")
	w.Body = "hi"
	log := logOf(makes("one"), puts("k", "hi"))
	fit(t, "a bucket with a body", log, event(0, 1, w, done(0, "", "")))
	unfit(t, "what it did not put", log, event(2, 2, reads("k", 0), done(2, sumOf("hi"), "hi")), event(0, 1, w, done(0, "", "")))
}

// Promise 23.1: the same command several times in one log, with and without a token.
func TestSeveralTimes(t *testing.T) {
	p, q := puts("k", "hi"), withToken(puts("k", "hi"), "t")
	log := logOf(makes("one"), p, p, q, q, p)
	for at := 2; at <= 6; at++ {
		w, id := p, at
		if at == 4 || at == 5 {
			w, id = q, 4
		}
		for from := range at {
			for to := at; to <= 6; to++ {
				fit(t, "one of several", log, event(from, to, w, done(id, sumOf("hi"), "")))
			}
		}
		unfit(t, "one that stands elsewhere", log, event(at, 6, w, done(2, sumOf("hi"), "")))
	}
	unfit(t, "another one's number", log, event(0, 6, q, done(5, sumOf("hi"), "")))
	unfit(t, "another one's number", log, event(0, 6, p, done(4, sumOf("hi"), "")))
	v := event(0, 6, p, done(2, sumOf("hi"), ""))
	fit(t, "two events of one entry", log, v, v, v)
}

// Entries that say no command change nothing but the index, and fit nothing.
func TestNoCommands(t *testing.T) {
	log := []api.Entry{{Data: ""}, lies(makes("one")), {Data: "x"}, {Kind: 9, Data: lies(makes("two")).Data}, {Data: lies(makes("two")).Data + "!"}, lies(puts("k", "hi"))}
	fit(t, "a bucket", log, event(0, 2, makes("one"), done(0, "", "")))
	fit(t, "a put", log, event(0, 6, puts("k", "hi"), done(6, sumOf("hi"), "")))
	for from := 2; from <= 6; from++ {
		fit(t, "the buckets", log, event(from, 6, buckets(), done(0, "", "one\n")))
		unfit(t, "the buckets", log, event(from, 6, buckets(), done(0, "", "one\ntwo\n")))
	}
}

// Tag and Leader count for nothing.
func TestTagLeader(t *testing.T) {
	log := append(logOf(makes("one"), puts("k", "hi")), conf())
	for _, n := range []int{math.MinInt, -2, -1, 0, 1, 7, math.MaxInt} {
		for _, v := range []api.Event{
			event(0, 1, makes("one"), done(0, "", "")), event(0, 1, makes("one"), refused(api.ErrFull)), event(0, 2, puts("k", "hi"), done(2, sumOf("hi"), "")),
			event(0, 3, nodes(), done(0, "", "")), event(0, 0, nodes(), refused(api.ErrThere)), event(0, 3, reads("k", 0), done(2, sumOf("hi"), "hi")),
			event(2, 2, buckets(), done(0, "", "one\n")), event(0, 0, buckets(), refused(api.ErrLeader)), event(0, 0, keys(), refused(api.ErrNone)),
		} {
			v.R.Tag, v.R.Leader = n, -n
			fit(t, "any tag and leader", log, v, putting("hi"))
			v.R.Body += "x"
			unfit(t, "any tag and leader", log, v, putting("hi"))
		}
	}
}

// Promise 23.1: the first event that does not fit is told, wherever in the log that shows.
func TestFirst(t *testing.T) {
	log := logOf(makes("one"), makes("two"), makes("three"))
	good := event(0, 3, makes("two"), done(0, "", ""))
	bad := []api.Event{
		event(0, 0, buckets(), done(0, "", "x")), event(0, 3, buckets(), done(0, "", "x")), event(3, 3, makes("two"), done(0, "", "")),
		event(-1, 3, buckets(), done(0, "", "")), event(0, 4, buckets(), done(0, "", "")), event(2, 1, buckets(), done(0, "", "")), event(0, 2, makes("four"), done(0, "", "")),
	}
	for i := range bad {
		for j := range bad {
			for at := range 3 {
				events := []api.Event{good, good, good}
				events[at] = bad[i]
				events = append(events, bad[j], good)
				if got := model.Judge(log, events); got != at {
					t.Errorf("%d and %d: %d, not %d", i, j, got, at)
				}
			}
		}
	}
	many := make([]api.Event, 500)
	for i := range many {
		many[i] = event(i%4, 3, buckets(), done(0, "", "one\nthree\ntwo\n"))
	}
	if got := model.Judge(log, many); got != -1 {
		t.Errorf("many: %d", got)
	}
	for _, at := range []int{499, 300, 17, 3, 0} {
		many[at].R.Body = "one\n"
		many[at].From = 2
		if got := model.Judge(log, many); got != at {
			t.Errorf("many: %d, not %d", got, at)
		}
	}
}
