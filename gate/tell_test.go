package gate_test

import (
	"fmt"
	"slices"
	"testing"

	"stowage/api"
	"stowage/gate"
	"stowage/meta"
)

// filled is a machine with some of everything: the object k (2, 5), which is marked (6) and put again (7), gone with a marker (8, 9), the empty one e (10), folders a/1, a/2, and the uploads 13 and 14 with parts.
func filled(t *testing.T) *meta.Machine {
	t.Helper()
	m := meta.New()
	put := func(key, body string) api.Cmd {
		return api.Cmd{Kind: api.CmdPut, Bucket: "one", Key: key, Sum: sumOf(body), Pieces: pieceList(body)}
	}
	part := func(n int, body string) api.Cmd {
		return api.Cmd{Kind: api.CmdPart, Bucket: "one", Key: "big one", ID: 13, N: n, Sum: sumOf(body), Pieces: pieceList(body)}
	}
	for i, c := range []api.Cmd{
		{Kind: api.CmdMake, Bucket: "one"}, put("k", "hi"), {Kind: api.CmdMake, Bucket: "two"}, {Kind: api.CmdMake, Bucket: "0.a"},
		put("k", bytesOf(5000)), {Kind: api.CmdMark, Bucket: "one", Key: "k"}, put("k", bytesOf(8193)),
		put("gone", "x"), {Kind: api.CmdMark, Bucket: "one", Key: "gone"}, put("e", ""), put("a/1", "1"), put("a/2", "2"),
		{Kind: api.CmdBegin, Bucket: "one", Key: "big one"}, {Kind: api.CmdBegin, Bucket: "one", Key: "a/b%"}, part(7, "seven"), part(2, bytesOf(4097)), part(100, ""),
	} {
		if o := m.Apply(i+1, c); o.Code != 0 {
			t.Fatalf("the command %d: %d", i+1, o.Code)
		}
	}
	return m
}

// Promise 21.1: what reads is told as the machine says.
func TestTell(t *testing.T) {
	m := filled(t)
	list := func(prefix, delimiter, after string, most int) api.Want {
		return api.Want{Kind: api.WantKeys, Bucket: "one", Prefix: prefix, Delimiter: delimiter, After: after, Most: most}
	}
	of := func(kind int, bucket, key string, id int) api.Want {
		return api.Want{Kind: kind, Bucket: bucket, Key: key, ID: id}
	}
	other := func(w api.Want, bucket string) api.Want { w.Bucket = bucket; return w }
	parts := fmt.Sprintf("2 4097 %s\n7 5 %s\n100 0 %s\n", sumOf(bytesOf(4097)), sumOf("seven"), sumOf(""))
	for _, c := range []struct {
		w      api.Want
		r      api.Reply
		pieces []api.Piece
	}{
		{buckets(), done(0, 0, "", "0.a\none\ntwo\n"), nil},
		{list("", "", "", 100), done(0, 0, "", "k a%2F1\nk a%2F2\nk e\nk k\n"), nil},
		{list("", "/", "", 100), done(0, 0, "", "f a%2F\nk e\nk k\n"), nil},
		{list("", "/", "a/", 1), done(0, 0, "", "k e\nmore\n"), nil},
		{list("a/", "", "", 1), done(0, 0, "", "k a%2F1\nmore\n"), nil},
		{list("z", "", "", 1), done(0, 0, "", ""), nil},
		{list("", "", "", 0), done(0, 0, "", "more\n"), nil},
		{other(list("", "", "", 100), "two"), done(0, 0, "", ""), nil},
		{other(list("", "", "", 100), "none"), failed(0, api.ErrNone), nil},
		{of(api.WantUploads, "one", "", 0), done(0, 0, "", "13 big%20one\n14 a%2Fb%25\n"), nil},
		{of(api.WantUploads, "two", "", 0), done(0, 0, "", ""), nil},
		{of(api.WantUploads, "none", "", 0), failed(0, api.ErrNone), nil},
		{of(api.WantParts, "one", "big one", 13), done(0, 0, "", parts), nil},
		{of(api.WantParts, "one", "a/b%", 14), done(0, 0, "", ""), nil},
		{of(api.WantParts, "one", "big one", 14), failed(0, api.ErrUpload), nil},
		{of(api.WantParts, "one", "big one", 0), failed(0, api.ErrUpload), nil},
		{of(api.WantParts, "none", "big one", 13), failed(0, api.ErrNone), nil},
		{reads("k", 0), done(0, 7, sumOf(bytesOf(8193)), ""), pieceList(bytesOf(8193))},
		{reads("k", 7), done(0, 7, sumOf(bytesOf(8193)), ""), pieceList(bytesOf(8193))},
		{reads("k", 5), done(0, 5, sumOf(bytesOf(5000)), ""), pieceList(bytesOf(5000))},
		{reads("k", 2), done(0, 2, sumOf("hi"), ""), pieceList("hi")},
		{heads("k", 0), done(0, 7, sumOf(bytesOf(8193)), ""), nil},
		{heads("k", 2), done(0, 2, sumOf("hi"), ""), nil},
		{reads("k", 6), done(0, 6, "", ""), nil}, // a marker that is asked for is told
		{heads("k", 6), done(0, 6, "", ""), nil},
		{reads("gone", 0), failed(0, api.ErrMark), nil},
		{heads("gone", 0), failed(0, api.ErrMark), nil},
		{reads("gone", 8), done(0, 8, sumOf("x"), ""), pieceList("x")},
		{reads("k", 3), failed(0, api.ErrVersion), nil},
		{reads("k", -1), failed(0, api.ErrVersion), nil},
		{heads("k", 1<<62), failed(0, api.ErrVersion), nil},
		{reads("e", 0), done(0, 10, sumOf(""), ""), nil},
		{reads("nokey", 0), failed(0, api.ErrKey), nil},
		{heads("nokey", 1), failed(0, api.ErrKey), nil},
		{other(reads("k", 0), "none"), failed(0, api.ErrNone), nil},
		{other(reads("k", 0), ""), failed(0, api.ErrNone), nil},
	} {
		r, pieces := gate.Tell(m, c.w)
		if r != c.r || !slices.Equal(pieces, c.pieces) {
			t.Errorf("Tell(%s): %s, %d pieces, not %s, %d", short(c.w), short(r), len(pieces), short(c.r), len(c.pieces))
		}
	}
	if m.Save() != filled(t).Save() {
		t.Errorf("Tell has changed the machine")
	}
}

// Promise 21.1: what does not read, and machines that have nothing.
func TestTellRefuses(t *testing.T) {
	m := filled(t)
	for _, w := range []api.Want{{}, makes("three"), puts("k", "ho"), marks("k"), adds(1), drops(0), {Kind: 8, Bucket: "one", Key: "k"}, {Kind: -1}, {Kind: 1 << 62}} {
		if r, pieces := gate.Tell(m, w); r != failed(0, api.ErrArg) || len(pieces) != 0 {
			t.Errorf("Tell(%s): %s, %v", short(w), short(r), pieces)
		}
	}
	for _, w := range []api.Want{keys(), reads("k", 0), heads("k", 1), {Kind: api.WantUploads, Bucket: "one"}, {Kind: api.WantParts, Bucket: "one", Key: "k", ID: 1}} {
		if r, pieces := gate.Tell(nil, w); r != failed(0, api.ErrArg) || len(pieces) != 0 {
			t.Errorf("Tell(nil, %s): %s, %v", short(w), short(r), pieces)
		}
		if r, pieces := gate.Tell(meta.New(), w); r != failed(0, api.ErrNone) || len(pieces) != 0 {
			t.Errorf("Tell of a new machine, %s: %s, %v", short(w), short(r), pieces)
		}
	}
	for _, m := range []*meta.Machine{nil, meta.New()} {
		if r, pieces := gate.Tell(m, buckets()); r != done(0, 0, "", "") || len(pieces) != 0 {
			t.Errorf("Tell of no buckets: %s, %v", short(r), pieces)
		}
	}
}

// Rule R3: what is told is of its own memory.
func TestTellSharesNothing(t *testing.T) {
	m := filled(t)
	w := reads("k", 0)
	r, pieces := gate.Tell(m, w)
	again, other := gate.Tell(m, w)
	apart(t, r, pieces, again, other, w)
	pieces[0], pieces[1].ID = api.Piece{}, "x"
	if _, pieces := gate.Tell(m, w); !slices.Equal(pieces, pieceList(bytesOf(8193))) {
		t.Errorf("a change of pieces came to the machine: %v", pieces)
	}
}
