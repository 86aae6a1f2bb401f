package raft_test

import (
	"fmt"
	"math"
	"strings"
	"testing"

	"stowage/api"
	"stowage/octet"
	"stowage/raft"
)

const (
	most     = 1099511627776
	mostData = 65536
)

// full is a message that has something everywhere.
func full() api.Msg {
	return api.Msg{Kind: api.MsgAppend, From: 2, To: 5, Term: 900, Index: 301, LogTerm: 7, Commit: 302, Round: 303, At: 304, Yes: true, Entries: []api.Entry{{Term: 7, Kind: 0, Data: "ab"}, {Term: 900, Kind: 255, Data: ""}}, Data: "xyz"}
}

// with is that message, changed.
func with(change func(m *api.Msg)) api.Msg {
	m := full()
	change(&m)
	return m
}

// many are entries of one term.
func many(n, term int) []api.Entry {
	l := make([]api.Entry, n)
	for i := range l {
		l[i].Term = term
	}
	return l
}

// fields are the numbers of a message but its kind and its nodes.
func fields(m *api.Msg) []*int {
	return []*int{&m.Term, &m.Index, &m.LogTerm, &m.Commit, &m.Round, &m.At}
}

// good are messages that may be, at each of the bounds.
func good() []api.Msg {
	l := []api.Msg{full(), {Kind: api.MsgVote, From: 0, To: 1}, {Kind: api.MsgVote, From: 6, To: 0}, {Kind: api.MsgVote, From: 0, To: 6}}
	for kind := 1; kind <= 6; kind++ {
		l = append(l, with(func(m *api.Msg) { m.Kind = kind }))
	}
	for i := range fields(&api.Msg{}) {
		l = append(l, with(func(m *api.Msg) { m.Term = most; *fields(m)[i] = most; m.Entries = nil }))
		l = append(l, with(func(m *api.Msg) { m.LogTerm, m.Entries = 0, nil; *fields(m)[i] = 0 }))
	}
	return append(l,
		with(func(m *api.Msg) { m.LogTerm, m.Entries = 900, nil }),
		with(func(m *api.Msg) { m.LogTerm, m.Entries = 900, many(1, 900) }),
		with(func(m *api.Msg) { m.Entries = many(16, 7) }),
		with(func(m *api.Msg) { m.Entries = many(16, 900) }),
		with(func(m *api.Msg) { m.Entries = many(2, 8); m.Entries[1].Term = 9 }),
		with(func(m *api.Msg) { m.Term, m.Entries = most, many(1, most) }),
		with(func(m *api.Msg) { m.LogTerm, m.Entries = 0, many(3, 0) }),
		with(func(m *api.Msg) { m.Entries[0].Kind, m.Entries[1].Kind = 255, 0 }),
		with(func(m *api.Msg) { m.Entries[1].Data = strings.Repeat("d", mostData) }),
		with(func(m *api.Msg) { m.Data = strings.Repeat("d", 4096) }),
		with(func(m *api.Msg) { m.Data = "" }),
	)
}

// bad are messages that may not be, each beyond one bound.
func bad() []api.Msg {
	var l []api.Msg
	for _, kind := range []int{0, 7, -1, math.MinInt, math.MaxInt} {
		l = append(l, with(func(m *api.Msg) { m.Kind = kind }))
	}
	for _, node := range []int{-1, 7, math.MinInt, math.MaxInt} {
		l = append(l, with(func(m *api.Msg) { m.From = node }), with(func(m *api.Msg) { m.To = node }))
	}
	for node := range 7 {
		l = append(l, with(func(m *api.Msg) { m.From, m.To = node, node }))
	}
	for i := range fields(&api.Msg{}) {
		for _, n := range []int{-1, math.MinInt, most + 1, math.MaxInt} {
			l = append(l, with(func(m *api.Msg) { m.Entries, m.LogTerm = nil, 0; *fields(m)[i] = n }))
			l = append(l, with(func(m *api.Msg) { m.Entries, m.LogTerm, m.Term = nil, 0, most; *fields(m)[i] = n }))
		}
	}
	return append(l,
		with(func(m *api.Msg) { m.LogTerm, m.Entries = 901, nil }),
		with(func(m *api.Msg) { m.Term, m.Entries = 6, nil }),
		with(func(m *api.Msg) { m.Entries = many(17, 7) }),
		with(func(m *api.Msg) { m.Entries = many(1, 6) }),
		with(func(m *api.Msg) { m.Entries = many(1, 901) }),
		with(func(m *api.Msg) { m.Entries = many(1, math.MaxInt) }),
		with(func(m *api.Msg) { m.Entries = many(1, math.MinInt) }),
		with(func(m *api.Msg) { m.Entries = many(3, 9); m.Entries[1].Term = 8 }),
		with(func(m *api.Msg) { m.Entries = many(3, 9); m.Entries[2].Term = 8 }),
		with(func(m *api.Msg) { m.Entries = many(3, 9); m.Entries[2].Term = 901 }),
		with(func(m *api.Msg) { m.Entries[0].Kind = -1 }),
		with(func(m *api.Msg) { m.Entries[1].Kind = 256 }),
		with(func(m *api.Msg) { m.Entries[1].Kind = math.MaxInt }),
		with(func(m *api.Msg) { m.Entries[0].Data = strings.Repeat("d", mostData+1) }),
		with(func(m *api.Msg) { m.Entries[1].Data = strings.Repeat("d", mostData+1) }),
		with(func(m *api.Msg) { m.Data = strings.Repeat("d", 4097) }),
		api.Msg{},
	)
}

// textOf is the text that the chapter says.
func textOf(m api.Msg) string {
	n := func(n int) string { return octet.Number(uint64(n)) }
	s := n(m.Kind) + n(m.From) + n(m.To) + n(m.Term) + n(m.Index) + n(m.LogTerm) + n(m.Commit) + n(m.Round) + n(m.At)
	if m.Yes {
		s += n(1)
	} else {
		s += n(0)
	}
	s += n(len(m.Entries))
	for _, e := range m.Entries {
		s += n(e.Term) + n(e.Kind) + octet.Text(e.Data)
	}
	return s + octet.Text(m.Data)
}

// refused asks that a text says no message.
func refused(t *testing.T, what, s string) {
	t.Helper()
	if m, e := raft.Decode(s); !sameMsg(m, api.Msg{}) || e != api.ErrForm {
		t.Errorf("%s: Decode: %s, %v", what, brief([]api.Msg{m}), e)
	}
}

// Promise 10.1: messages that may be, and their texts.
func TestMessages(t *testing.T) {
	for _, m := range good() {
		what := brief([]api.Msg{m})
		if len(what) > 300 {
			what = what[:300]
		}
		if !raft.Check(m) {
			t.Errorf("Check of %s", what)
		}
		s, e := raft.Encode(m)
		if s != textOf(m) || e != api.OK {
			t.Errorf("Encode of %s: %d bytes, %v", what, len(s), e)
		}
		if again, e := raft.Decode(textOf(m)); !sameMsg(again, m) || e != api.OK {
			t.Errorf("Decode of %s: %v", what, e)
		}
		refused(t, "something behind", textOf(m)+"\x00")
		for i := range min(len(s), 60) {
			refused(t, "cut off", s[:i])
			refused(t, "cut off", s[:len(s)-1-i])
		}
	}
}

// Promise 10.1: one message's bytes, one by one.
func TestBytes(t *testing.T) {
	s, e := raft.Encode(full())
	want := "\x03\x02\x05\x84\x07\xad\x02\x07\xae\x02\xaf\x02\xb0\x02\x01\x02\x07\x00\x02ab\x84\x07\xff\x01\x00\x03xyz"
	if s != want || e != api.OK {
		t.Errorf("Encode: %q, %v, not %q", s, e, want)
	}
}

// Promise 10.1: messages that may not be, and texts that say them.
func TestBadMessages(t *testing.T) {
	for i, m := range bad() {
		if raft.Check(m) {
			t.Errorf("Check of the bad message %d: %s", i, brief([]api.Msg{m}))
		}
		if s, e := raft.Encode(m); s != "" || e != api.ErrArg {
			t.Errorf("Encode of the bad message %d: %d bytes, %v", i, len(s), e)
		}
		refused(t, fmt.Sprint("the bad message ", i), textOf(m))
	}
}

// Promise 10.1: texts that are not of the one form.
func TestBadTexts(t *testing.T) {
	ahead := "\x03\x02\x05\x09\x00\x00\x00\x00\x00"
	for _, s := range []string{
		"", ahead, ahead + "\x02\x00\x00", ahead + "\x00\x01\x00", ahead + "\x00\x80\x00\x00", ahead + "\x00\x00\x80\x00", "\x83\x00\x02\x05\x09\x00\x00\x00\x00\x00\x00\x00\x00",
		ahead + "\x00\xff\xff\xff\xff\xff\xff\xff\xff\xff\x01", ahead + "\x00\x00\xff\xff\xff\xff\xff\xff\xff\xff\xff\x01", "\x03\x02\x05\xff\xff\xff\xff\xff\xff\xff\xff\xff\x01\x00\x00\x00\x00\x00\x00\x00\x00",
	} {
		refused(t, fmt.Sprintf("%q", s), s)
	}
	if m, e := raft.Decode(ahead + "\x00\x00\x00"); e != api.OK || m.Term != 9 {
		t.Errorf("Decode: %v, %v", m, e)
	}
}

// Rule R3: a message from a text has lists of its own.
func TestDecodeSharesNothing(t *testing.T) {
	s := textOf(full())
	one, _ := raft.Decode(s)
	two, _ := raft.Decode(s)
	one.Entries[0].Data = "changed"
	if !sameMsg(two, full()) {
		t.Errorf("Decode: two answers share memory")
	}
}

// Any bytes are a message that may be, in its one form, or none.
func FuzzDecode(f *testing.F) {
	for _, m := range good() {
		if s := textOf(m); len(s) < 1000 {
			f.Add(s)
		}
	}
	f.Fuzz(func(t *testing.T, s string) {
		m, e := raft.Decode(s)
		if e != api.OK {
			refused(t, "Decode", s)
			return
		}
		if again, e := raft.Encode(m); again != s || e != api.OK || !raft.Check(m) {
			t.Errorf("Decode of %q: %v", s, m)
		}
	})
}
