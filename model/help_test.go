package model_test

import (
	"fmt"
	"reflect"
	"strings"
	"testing"
	"unsafe"

	"stowage/api"
	commands "stowage/cmd"
	"stowage/digest"
	"stowage/extent"
	"stowage/gate"
	"stowage/meta"
	"stowage/model"
)

// rep is one text n times.
func rep(s string, n int) string { return strings.Repeat(s, n) }

// sumOf is the digest of bytes as digits.
func sumOf(s string) string { return digest.Hex(digest.Sum(s)) }

// short is a value as a text, or its beginning.
func short(v any) string {
	s := fmt.Sprintf("%+v", v)
	return s[:min(len(s), 300)]
}

// bytesOf are n bytes, unlike one another's extents.
func bytesOf(n int) string {
	var b strings.Builder
	for b.Len() < n {
		fmt.Fprintf(&b, "%d,", b.Len())
	}
	return b.String()[:n]
}

// cmd is that a command is wanted.
func cmd(c api.Cmd) api.Want { return api.Want{Kind: api.WantCmd, Cmd: c} }

func makes(bucket string) api.Want {
	return cmd(api.Cmd{Kind: api.CmdMake, Bucket: bucket})
}

func drops(bucket string) api.Want {
	return cmd(api.Cmd{Kind: api.CmdDrop, Bucket: bucket})
}

func puts(key, body string) api.Want {
	return api.Want{Kind: api.WantCmd, Cmd: api.Cmd{Kind: api.CmdPut, Bucket: "one", Key: key}, Body: body}
}

func marks(key string) api.Want {
	return cmd(api.Cmd{Kind: api.CmdMark, Bucket: "one", Key: key})
}

func begins(key string) api.Want {
	return cmd(api.Cmd{Kind: api.CmdBegin, Bucket: "one", Key: key})
}

func lays(key string, id, n int, body string) api.Want {
	return api.Want{Kind: api.WantCmd, Cmd: api.Cmd{Kind: api.CmdPart, Bucket: "one", Key: key, ID: id, N: n}, Body: body}
}

func joins(key string, id int, picks ...api.Pick) api.Want {
	return cmd(api.Cmd{Kind: api.CmdJoin, Bucket: "one", Key: key, ID: id, Picks: picks})
}

func reads(key string, id int) api.Want {
	return api.Want{Kind: api.WantRead, Bucket: "one", Key: key, ID: id}
}

func heads(key string, id int) api.Want {
	return api.Want{Kind: api.WantRead, Bucket: "one", Key: key, ID: id, Head: true}
}

func keys() api.Want { return api.Want{Kind: api.WantKeys, Bucket: "one", Most: 100} }

func buckets() api.Want { return api.Want{Kind: api.WantBuckets} }

func uploads() api.Want { return api.Want{Kind: api.WantUploads, Bucket: "one"} }

func partsOf(key string, id int) api.Want {
	return api.Want{Kind: api.WantParts, Bucket: "one", Key: key, ID: id}
}

func nodes() api.Want { return api.Want{Kind: api.WantNode, Node: 1, Add: true} }

// withToken is the same want with a client's token.
func withToken(w api.Want, token string) api.Want {
	w.Cmd.Token = token
	return w
}

// readings are wants of each kind that reads.
func readings() []api.Want {
	return []api.Want{buckets(), keys(), uploads(), partsOf("k", 1), reads("k", 0), reads("k", 2), heads("k", 0), heads("k", 2)}
}

// command is the command of a want, with what its body says.
func command(w api.Want) api.Cmd {
	c := w.Cmd
	if c.Kind == api.CmdPut || c.Kind == api.CmdPart {
		c.Sum, c.Pieces = sumOf(w.Body), nil
		for _, s := range extent.Cut(w.Body) {
			c.Pieces = append(c.Pieces, api.Piece{ID: extent.ID(s), Size: len(s)})
		}
	}
	return c
}

// lies is an entry of a command.
func lies(w api.Want) api.Entry {
	text, e := commands.Encode(command(w))
	if e != api.OK {
		panic("no command: " + short(w))
	}
	return api.Entry{Term: 1, Data: text}
}

// encoded is a command's text, if it may be.
func encoded(c api.Cmd) (string, bool) {
	text, e := commands.Encode(c)
	return text, e == api.OK
}

// decoded is the command that an entry says, if it says one.
func decoded(entry api.Entry) (api.Cmd, bool) {
	c, e := commands.Decode(entry.Data)
	return c, e == api.OK && entry.Kind == api.EntryData
}

// noop and conf are entries of other kinds.
func noop() api.Entry { return api.Entry{Term: 1, Kind: api.EntryNoop} }

func conf() api.Entry { return api.Entry{Term: 1, Kind: api.EntryConf, Data: "\x01\x00"} }

// logOf is a log of commands.
func logOf(l ...api.Want) []api.Entry {
	var log []api.Entry
	for _, w := range l {
		log = append(log, lies(w))
	}
	return log
}

// event is one.
func event(from, to int, w api.Want, r api.Reply) api.Event {
	return api.Event{From: from, To: to, W: w, R: r}
}

// refused is an answer that tells an error.
func refused(e api.Errno) api.Reply { return api.Reply{Code: e, Leader: -1} }

// done is an answer without an error.
func done(id int, sum, body string) api.Reply {
	return api.Reply{ID: id, Sum: sum, Body: body, Leader: -1}
}

// fit asks that an event fits, alone, and behind and ahead of others.
func fit(t *testing.T, what string, log []api.Entry, v api.Event, others ...api.Event) {
	t.Helper()
	judge(t, what, log, v, others, -1)
}

// unfit asks that an event does not fit.
func unfit(t *testing.T, what string, log []api.Entry, v api.Event, others ...api.Event) {
	t.Helper()
	judge(t, what, log, v, others, 0)
}

// judge asks for a judgement of an event; the others that put something fit.
func judge(t *testing.T, what string, log []api.Entry, v api.Event, others []api.Event, want int) {
	t.Helper()
	if got := model.Judge(log, append([]api.Event{v}, others...)); got != want {
		t.Errorf("%s: %d, not %d: %s", what, got, want, short(v))
	}
	if want == 0 {
		want = len(others)
	}
	if got := model.Judge(log, append(append([]api.Event{}, others...), v)); got != want {
		t.Errorf("%s: %d, not %d, with others ahead: %s", what, got, want, short(v))
	}
}

// putting is an event that puts bytes, and fits any log.
func putting(body string) api.Event { return event(0, 0, puts("any", body), refused(api.ErrBusy)) }

// plainBehind is the machine behind an index, as the chapter says it.
func plainBehind(log []api.Entry, index int) *meta.Machine {
	m := meta.New()
	for i := 1; i <= index; i++ {
		if e := log[i-1]; e.Kind == api.EntryData {
			c, _ := commands.Decode(e.Data)
			m.Apply(i, c)
		}
	}
	return m
}

// plainFits tells whether an event fits, as the chapter says it, with nothing kept from one question to another.
func plainFits(log []api.Entry, events []api.Event, v api.Event) bool {
	if v.From < 0 || v.From > v.To || v.To > len(log) {
		return false
	}
	bare := v.R.ID == 0 && v.R.Sum == "" && v.R.Body == ""
	is := func(l ...api.Errno) bool {
		for _, e := range l {
			if v.R.Code == e {
				return true
			}
		}
		return false
	}
	if is(api.ErrLeader, api.ErrBusy, api.ErrDown) && bare {
		return true
	}
	switch v.W.Kind {
	case api.WantNode:
		for _, e := range log[v.From:v.To] {
			if e.Kind == api.EntryConf && is(api.OK) && bare {
				return true
			}
		}
		return is(api.ErrThere, api.ErrNone, api.ErrArg, api.ErrConf, api.ErrFull) && bare
	case api.WantCmd:
		return is(api.ErrFull) && bare || plainDone(log, v)
	case api.WantBuckets, api.WantKeys, api.WantUploads, api.WantParts, api.WantRead:
		for index := v.From; index <= v.To; index++ {
			if plainTold(log, events, v, index) {
				return true
			}
		}
	}
	return false
}

// plainDone tells whether a command stands in the log, and came out so.
func plainDone(log []api.Entry, v api.Event) bool {
	text, e := commands.Encode(command(v.W))
	if e != api.OK {
		return false
	}
	for index := v.From + 1; index <= v.To; index++ {
		if entry := log[index-1]; entry.Kind != api.EntryData || entry.Data != text {
			continue
		}
		o := plainBehind(log, index-1).Apply(index, command(v.W))
		if v.R.Code == api.Errno(o.Code) && v.R.ID == o.ID && v.R.Sum == o.Sum && v.R.Body == "" {
			return true
		}
	}
	return false
}

// plainTold tells whether the machine answers so behind an index.
func plainTold(log []api.Entry, events []api.Event, v api.Event, index int) bool {
	r, pieces := gate.Tell(plainBehind(log, index), v.W)
	for _, p := range pieces {
		s, was := plainPut(events, p.ID)
		if !was {
			return false
		}
		r.Body += s
	}
	return v.R.Code == r.Code && v.R.ID == r.ID && v.R.Sum == r.Sum && v.R.Body == r.Body
}

// plainPut is an extent that was put, by its id.
func plainPut(events []api.Event, id string) (string, bool) {
	for _, v := range events {
		if v.W.Kind != api.WantCmd || v.W.Cmd.Kind != api.CmdPut && v.W.Cmd.Kind != api.CmdPart {
			continue
		}
		for _, s := range extent.Cut(v.W.Body) {
			if extent.ID(s) == id {
				return s, true
			}
		}
	}
	return "", false
}

// span is a stretch of memory.
type span struct{ from, to uintptr }

// spans are where the texts and lists of a value stand, also behind pointers.
func spans(v reflect.Value) []span {
	var l []span
	switch v.Kind() {
	case reflect.String:
		from := uintptr(unsafe.Pointer(unsafe.StringData(v.String())))
		return []span{{from, from + uintptr(v.Len())}}
	case reflect.Slice:
		l = append(l, span{v.Pointer(), v.Pointer() + uintptr(v.Cap())*v.Type().Elem().Size()})
		for i := range v.Len() {
			l = append(l, spans(v.Index(i))...)
		}
	case reflect.Struct:
		for i := range v.NumField() {
			l = append(l, spans(v.Field(i))...)
		}
	case reflect.Pointer:
		if !v.IsNil() {
			l = spans(v.Elem())
		}
	case reflect.Map:
		for _, k := range v.MapKeys() {
			l = append(append(l, spans(k)...), spans(v.MapIndex(k))...)
		}
	}
	return l
}

// apart asks that no two values have memory in common.
func apart(t *testing.T, values ...any) {
	t.Helper()
	for i, a := range values {
		for j, b := range values[:i] {
			for _, x := range spans(reflect.ValueOf(a)) {
				for _, y := range spans(reflect.ValueOf(b)) {
					if x.from < y.to && y.from < x.to {
						t.Errorf("%d and %d have one memory: %s, %s", i, j, short(a), short(b))
						return
					}
				}
			}
		}
	}
}
