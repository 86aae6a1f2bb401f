package model_test

import (
	"math"
	"reflect"
	"slices"
	"strings"
	"testing"

	"stowage/api"
	commands "stowage/cmd"
	"stowage/meta"
	"stowage/model"
)

// entryOf is an entry of a command.
func entryOf(c api.Cmd) api.Entry {
	text, e := commands.Encode(c)
	if e != api.OK {
		panic("no command: " + short(c))
	}
	return api.Entry{Term: 1, Data: text}
}

// long is a log with commands of all kinds, and entries of others.
func long() []api.Entry {
	part := rep("p", api.MinPart)
	return append([]api.Entry{noop(), lies(makes("one")), conf(), {Data: "none"}, {Kind: 9, Data: lies(makes("two")).Data}},
		logOf(withToken(puts("k", "hi"), "t"), withToken(puts("k", "hi"), "t"), marks("k"), begins("k"), lays("k", 9, 1, part), joins("k", 9, api.Pick{N: 1, Sum: sumOf(part)}),
			cmd(api.Cmd{Kind: api.CmdErase, Bucket: "one", Key: "k", ID: 6}), cmd(api.Cmd{Kind: api.CmdExpire, ID: 99}), makes("two"), drops("two"), drops("one"))...)
}

// Promise 23.1: the machine behind each index, as a gate drives it.
func TestBehind(t *testing.T) {
	log := long()
	for index := range len(log) + 1 {
		m, e := model.Behind(log, index)
		if e != api.OK || m.Save() != plainBehind(log, index).Save() {
			t.Errorf("behind %d: %v", index, e)
		}
	}
	m, e := model.Behind(log, 3)
	if e != api.OK || m.Index() != 2 || !slices.Equal(m.Buckets(), []string{"one"}) {
		t.Errorf("behind 3: %v, %d, %q", e, m.Index(), m.Buckets())
	}
	if m, _ := model.Behind(log, 4); m.Index() != 4 {
		t.Errorf("an entry that says no command: %d", m.Index())
	}
	if m, _ := model.Behind(log, 5); m.Index() != 4 || len(m.Buckets()) != 1 {
		t.Errorf("an entry of another kind: %d", m.Index())
	}
}

// Promise 23.1: an index that is not from 0 to the length of the log.
func TestBehindBounds(t *testing.T) {
	for _, log := range [][]api.Entry{nil, {}, long()} {
		for _, index := range []int{math.MinInt, -2, -1, len(log) + 1, len(log) + 2, math.MaxInt} {
			if m, e := model.Behind(log, index); e != api.ErrArg || m != nil {
				t.Errorf("behind %d of %d: %v", index, len(log), e)
			}
		}
		for _, index := range []int{0, len(log)} {
			if m, e := model.Behind(log, index); e != api.OK || m == nil {
				t.Errorf("behind %d of %d: %v", index, len(log), e)
			}
		}
	}
	if m, _ := model.Behind(long(), 0); m.Save() != meta.New().Save() {
		t.Errorf("behind 0 is no new machine")
	}
}

// Rule R3: two machines are apart, from one another and from the log.
func TestBehindApart(t *testing.T) {
	log := long()
	one, _ := model.Behind(log, 10)
	other, _ := model.Behind(log, 10)
	apart(t, log, *one, *other)
	text := other.Save()
	one.Apply(11, api.Cmd{Kind: api.CmdMark, Bucket: "one", Key: "new"})
	if other.Save() != text || one.Save() == text {
		t.Errorf("two machines are one")
	}
	if !slices.Equal(log, long()) {
		t.Errorf("the log was changed")
	}
}

// Rule R3: nothing that is handed in is changed, and nothing is kept of it.
func TestJudgeChangesNothing(t *testing.T) {
	body := bytesOf(api.MaxExtent + 9)
	log := append(long(), lies(makes("one")), lies(puts("k", body)))
	w := puts("k", body)
	w.Cmd.Pieces = append(make([]api.Piece, 0, 9), api.Piece{ID: "x", Size: 1})
	w.Cmd.Picks = make([]api.Pick, 0, 3)
	events := func() []api.Event {
		return []api.Event{event(0, 18, w, done(18, sumOf(body), "")), event(0, 18, reads("k", 0), done(18, sumOf(body), body)), event(0, 18, keys(), done(0, "", "none"))}
	}
	logged, told := slices.Clone(log), events()
	for range 2 {
		told[0].W.Cmd.Picks = nil
		if got := model.Judge(log, told); got != 2 {
			t.Errorf("Judge: %d", got)
		}
		want := events()
		want[0].W.Cmd.Picks = nil
		if !slices.Equal(log, logged) || !reflect.DeepEqual(told, want) {
			t.Errorf("what was handed in was changed")
		}
	}
	// Bytes in other memory are the same bytes.
	told[1].R.Body = strings.Clone(told[1].R.Body)
	if got := model.Judge(slices.Clone(log), slices.Clone(told)); got != 2 {
		t.Errorf("Judge of other memory: %d", got)
	}
}
