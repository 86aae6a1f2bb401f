package model_test

import (
	"fmt"
	"slices"
	"testing"

	"stowage/api"
	"stowage/gate"
)

// Words: of each kind of reading what the machine answers behind each index fits there, and from there on both ways.
func TestReadings(t *testing.T) {
	body := bytesOf(api.MaxExtent + 5)
	part := rep("p", api.MinPart)
	log := append(logOf(makes("one"), puts("k", body), puts("a/b", "hi"), begins("k"), lays("k", 4, 1, part), lays("k", 4, 2, "z"), marks("k"), makes("two")), noop(), conf())
	log = append(log, logOf(joins("k", 4, api.Pick{N: 1, Sum: sumOf(part)}, api.Pick{N: 2, Sum: sumOf("z")}), puts("k", ""), drops("two"))...)
	putAll := []api.Event{putting(body), putting("hi"), putting(part), putting("z"), putting("")}
	bytes := map[string]string{sumOf(body): body, sumOf("hi"): "hi", sumOf(""): ""}
	wants := append(readings(), partsOf("k", 4), reads("a/b", 0), heads("a/b", 3), reads("k", 7), heads("k", 7), reads("k", 11), reads("k", 12), reads("none", 0), keys(), api.Want{Kind: api.WantKeys, Bucket: "one", Delimiter: "/", Most: 1})
	for _, w := range wants {
		var told []api.Reply
		for index := range len(log) + 1 {
			r, pieces := gate.Tell(plainBehind(log, index), w)
			if len(pieces) > 0 {
				r.Body = bytes[r.Sum]
			}
			if r.ID == 11 && !w.Head {
				r.Body = part + "z"
			}
			told = append(told, r)
		}
		for from := range told {
			for to := from; to < len(told); to++ {
				for at, r := range told {
					if slices.Index(told, r) < at {
						continue // it was asked for already
					}
					v := event(from, to, w, r)
					if slices.Contains(told[from:to+1], r) {
						fit(t, fmt.Sprint("as it is behind ", at), log, v, putAll...)
					} else {
						unfit(t, fmt.Sprint("as it is behind ", at), log, v, putAll...)
					}
				}
			}
		}
	}
}

// Promise 23.2: what is told at one point alone is just what the machine answers there.
func TestOnePoint(t *testing.T) {
	log := logOf(makes("one"), puts("k", "hi"), puts("k", "ho"), marks("k"), begins("k"), lays("k", 5, 3, "hi"))
	others := []api.Event{putting("hi"), putting("ho")}
	for _, c := range []struct {
		at int
		w  api.Want
		r  api.Reply
	}{
		{0, buckets(), done(0, "", "")}, {1, buckets(), done(0, "", "one\n")}, {0, keys(), refused(api.ErrNone)}, {1, keys(), done(0, "", "")}, {2, keys(), done(0, "", "k k\n")}, {4, keys(), done(0, "", "")},
		{0, reads("k", 0), refused(api.ErrNone)}, {1, reads("k", 0), refused(api.ErrKey)}, {2, reads("k", 0), done(2, sumOf("hi"), "hi")}, {3, reads("k", 0), done(3, sumOf("ho"), "ho")}, {4, reads("k", 0), refused(api.ErrMark)},
		{4, reads("k", 4), done(4, "", "")}, {4, reads("k", 2), done(2, sumOf("hi"), "hi")}, {4, reads("k", 1), refused(api.ErrVersion)}, {3, heads("k", 0), done(3, sumOf("ho"), "")}, {4, heads("k", 4), done(4, "", "")},
		{4, uploads(), done(0, "", "")}, {5, uploads(), done(0, "", "5 k\n")}, {0, uploads(), refused(api.ErrNone)},
		{5, partsOf("k", 5), done(0, "", "")}, {6, partsOf("k", 5), done(0, "", "3 2 "+sumOf("hi")+"\n")}, {5, partsOf("k", 4), refused(api.ErrUpload)},
	} {
		fit(t, "at one point", log, event(c.at, c.at, c.w, c.r), others...)
		for _, r := range []api.Reply{
			{Code: c.r.Code + 1, ID: c.r.ID, Sum: c.r.Sum, Body: c.r.Body}, {Code: api.ErrArg, ID: c.r.ID, Sum: c.r.Sum, Body: c.r.Body},
			{Code: c.r.Code, ID: c.r.ID + 1, Sum: c.r.Sum, Body: c.r.Body}, {Code: c.r.Code, ID: -1, Sum: c.r.Sum, Body: c.r.Body},
			{Code: c.r.Code, ID: c.r.ID, Sum: c.r.Sum + "0", Body: c.r.Body}, {Code: c.r.Code, ID: c.r.ID, Sum: sumOf("none"), Body: c.r.Body},
			{Code: c.r.Code, ID: c.r.ID, Sum: c.r.Sum, Body: c.r.Body + "x"}, {Code: c.r.Code, ID: c.r.ID, Sum: c.r.Sum, Body: "x" + c.r.Body}, {Code: c.r.Code, ID: c.r.ID, Sum: c.r.Sum, Body: c.r.Body + c.r.Body + "\n"},
		} {
			unfit(t, "another answer", log, event(c.at, c.at, c.w, r), others...)
		}
		if n := len(c.r.Body); n > 0 {
			for _, body := range []string{c.r.Body[1:], c.r.Body[:n-1], ""} {
				unfit(t, "a piece of the body", log, event(c.at, c.at, c.w, done(c.r.ID, c.r.Sum, body)), others...)
			}
		}
	}
}

// Words: all pieces of an object that is read were put, by any event, wherever it stands, and whatever came of it.
func TestPut(t *testing.T) {
	body := bytesOf(2*api.MaxExtent + 5)
	log := logOf(makes("one"), puts("k", body))
	read := event(2, 2, reads("k", 0), done(2, sumOf(body), body))
	unfit(t, "put by nobody", log, read)
	fit(t, "put by its command", log, read, event(1, 2, puts("k", body), done(2, sumOf(body), "")))
	fit(t, "put by one that was refused", log, read, putting(body))
	fit(t, "put by a part", log, read, event(0, 0, lays("x", 9, 9, body), refused(api.ErrBusy)))
	fit(t, "put by several", log, read, putting(body[:api.MaxExtent]), putting("other"), putting(body[api.MaxExtent:2*api.MaxExtent]), putting(body[2*api.MaxExtent:]))
	fit(t, "put in another order", log, read, putting(body[api.MaxExtent:2*api.MaxExtent]+body[:api.MaxExtent]), putting(body[2*api.MaxExtent:]))
	unfit(t, "put but for the first piece", log, read, putting(body[api.MaxExtent:]))
	unfit(t, "put but for the last piece", log, read, putting(body[:2*api.MaxExtent]))
	unfit(t, "without what nobody put", log, event(2, 2, reads("k", 0), done(2, sumOf(body), "")))
	unfit(t, "without the piece that nobody put", log, event(2, 2, reads("k", 0), done(2, sumOf(body), body[api.MaxExtent:])), putting(body[api.MaxExtent:]))
	unfit(t, "put in pieces that are others", log, read, putting("x"+body))
	for _, w := range []api.Want{makes("one"), marks("k"), joins("k", 1), reads("k", 0), buckets(), nodes(), {}, cmd(api.Cmd{})} {
		w.Body = body
		unfit(t, "a body of another want", log, read, event(0, 0, w, refused(api.ErrBusy)))
	}
	w := puts("k", body)
	w.Kind = api.WantRead
	unfit(t, "a body of another kind", log, read, event(0, 0, w, refused(api.ErrBusy)))
	head := event(2, 2, heads("k", 0), done(2, sumOf(body), ""))
	fit(t, "the head of what nobody put", log, head)
	fit(t, "an answer that needs no bytes", log, event(1, 2, reads("k", 0), refused(api.ErrKey)))
	empty := logOf(makes("one"), puts("k", ""))
	fit(t, "an object without bytes, put by nobody", empty, event(2, 2, reads("k", 0), done(2, sumOf(""), "")))
}

// Words: an event that does not fit puts its extents, too, and one that may not be a command.
func TestPutByOthers(t *testing.T) {
	log := logOf(makes("one"), puts("k", "hi"))
	read := event(2, 2, reads("k", 0), done(2, sumOf("hi"), "hi"))
	for _, v := range []api.Event{
		event(9, 2, puts("k", "hi"), done(2, sumOf("hi"), "")), event(-1, 0, puts("", "hi"), done(7, "", "x")), event(0, 0, lays("", 0, 0, "hi"), refused(api.ErrArg)),
	} {
		judge(t, "put by what does not fit", log, v, []api.Event{read}, 0)
		long := v
		long.W.Body = rep("x", 300*api.MaxExtent) + "hi"
		judge(t, "put by what is too long", log, long, []api.Event{read}, 0)
	}
}

// Words: bytes of unlike extents, of which the same one stands several times, are held against the body one behind the other.
func TestBodies(t *testing.T) {
	x, y := rep("x", api.MaxExtent), rep("y", api.MaxExtent)
	body := x + y + x + x + "x"
	log := logOf(makes("one"), puts("k", body))
	for _, c := range []struct {
		body string
		fits bool
	}{
		{body, true}, {x + y + x + x, false}, {body + "x", false}, {x + x + y + x + "x", false}, {y + x + x + x + "x", false}, {body[:len(body)-2] + "y" + "x", false}, {"", false}, {"x", false},
	} {
		v := event(2, 2, reads("k", 2), done(2, sumOf(body), c.body))
		if c.fits {
			fit(t, "a body", log, v, putting(body))
		} else {
			unfit(t, "a body", log, v, putting(body))
		}
	}
}

// A piece counts by its id: its size is what the log says of it.
func TestPieceSizes(t *testing.T) {
	c := command(puts("k", "hi"))
	c.Pieces[0].Size = 77
	log := append(logOf(makes("one")), entryOf(c))
	fit(t, "a piece of another size", log, event(2, 2, reads("k", 0), done(2, sumOf("hi"), "hi")), putting("hi"))
}

// Promise 23.1: wants that no request has are answered by the machine all the same; those that do not read are not.
func TestWrongReadings(t *testing.T) {
	log := logOf(makes("one"))
	for _, c := range []struct {
		w api.Want
		r api.Reply
	}{
		{reads("", -1), refused(api.ErrKey)}, {reads("k", -1), refused(api.ErrKey)}, {api.Want{Kind: api.WantKeys, Bucket: "\xff", Most: -1}, refused(api.ErrNone)},
		{partsOf("k", -1), refused(api.ErrUpload)}, {api.Want{Kind: api.WantBuckets, Bucket: "x", Body: "y", Head: true}, done(0, "", "one\n")},
	} {
		fit(t, "a want that nobody has", log, event(1, 1, c.w, c.r))
	}
	for _, kind := range []int{-1, 0, 8, 99} {
		for _, e := range []api.Errno{api.OK, api.ErrArg, api.ErrNone, api.ErrFull} {
			unfit(t, "no want", log, event(0, 1, api.Want{Kind: kind}, refused(e)))
		}
	}
}
