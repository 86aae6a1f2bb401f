package meta_test

import (
	"fmt"
	"maps"
	"math/rand"
	"runtime"
	"slices"
	"strings"
	"testing"
	"unsafe"

	"stowage/api"
	"stowage/meta"
)

// drawer draws commands that mostly hit what is there.
type drawer struct {
	r             *rand.Rand
	p             *plain
	buckets, keys []string
	tokens        int
	old           []api.Cmd // commands with tokens that came
}

// of is one of a list.
func of[T any](r *rand.Rand, l []T) T { return l[r.Intn(len(l))] }

// pieces are a few pieces of a few sizes, so that many are shared.
func (d *drawer) pieces() []api.Piece {
	var l []api.Piece
	for range d.r.Intn(3) {
		l = append(l, pieces(of(d.r, []int{1, 5, 63, 64, 65, 4096}))...)
	}
	return l
}

// upload is the bucket, the key and the number of an upload that is there, if there is one.
func (d *drawer) upload() (string, string, int) {
	name := of(d.r, d.buckets)
	if b := d.p.buckets[name]; b != nil && len(b.uploads) > 0 && d.r.Intn(8) > 0 {
		id := of(d.r, slices.Sorted(maps.Keys(b.uploads)))
		return name, b.uploads[id].key, id
	}
	return name, of(d.r, d.keys), 1 + d.r.Intn(d.p.index+2)
}

// version is the bucket, the key and the number of a version that is there, if there is one.
func (d *drawer) version() (string, string, int) {
	name, key := of(d.r, d.buckets), of(d.r, d.keys)
	if b := d.p.buckets[name]; b != nil && len(b.keys[key]) > 0 && d.r.Intn(8) > 0 {
		return name, key, of(d.r, slices.Sorted(maps.Keys(b.keys[key])))
	}
	return name, key, 1 + d.r.Intn(d.p.index+2)
}

// picks are picks of an upload's parts, mostly right ones.
func (d *drawer) picks(bucket string, id int) []api.Pick {
	var l []api.Pick
	b := d.p.buckets[bucket]
	if b == nil || b.uploads[id] == nil {
		return []api.Pick{pick(1, 1)}
	}
	for _, part := range b.uploads[id].list() {
		switch d.r.Intn(12) {
		case 0:
			l = append(l, pick(part.N, 99))
		case 1:
			l = append(l, pick(1, 1))
		case 2, 3, 4:
		default:
			l = append(l, api.Pick{N: part.N, Sum: part.Sum})
		}
	}
	return l
}

// bare is a command without a token.
func (d *drawer) bare() api.Cmd {
	bucket, key, sum := of(d.r, d.buckets), of(d.r, d.keys), d.r.Intn(3)
	switch d.r.Intn(24) {
	case 0, 1:
		return makes(bucket)
	case 2:
		return drops(bucket)
	case 3, 4, 5, 6, 7:
		return puts(bucket, key, sum, d.pieces()...)
	case 8, 9:
		return marks(bucket, key)
	case 10, 11, 12:
		return erases(d.version())
	case 13, 14, 15:
		return begins(bucket, key)
	case 16, 17, 18, 19:
		bucket, key, id := d.upload()
		return brings(bucket, key, id, 1+d.r.Intn(4), sum, d.pieces()...)
	case 20, 21:
		bucket, key, id := d.upload()
		return joins(bucket, key, id, d.picks(bucket, id)...)
	case 22:
		return stops(d.upload())
	}
	if d.r.Intn(3) == 0 {
		return of(d.r, wrongCommands())
	}
	return expires(max(0, d.p.index-d.r.Intn(300)))
}

// next is a command, now and then one that came.
func (d *drawer) next() api.Cmd {
	if len(d.old) > 0 && d.r.Intn(6) == 0 {
		return of(d.r, d.old)
	}
	c := d.bare()
	if d.r.Intn(3) == 0 && c.Kind != api.CmdExpire {
		c.Token = fmt.Sprintf("t%d", d.r.Intn(d.tokens))
		d.old = append(d.old, c)
	}
	return c
}

// index is mostly the next index.
func (d *drawer) index() int {
	switch d.r.Intn(20) {
	case 0:
		return d.p.index - d.r.Intn(3)
	case 1:
		return d.p.index + 1 + d.r.Intn(50)
	case 2:
		return of(d.r, []int{0, -1, 1<<40 + 1})
	}
	return d.p.index + 1
}

// Promises 17.1 to 17.3: drawn commands, held against a plain machine; a second machine is saved and loaded between, and is the same.
func TestAny(t *testing.T) {
	codes := map[int]int{}
	for seed := range 24 {
		r := rand.New(rand.NewSource(int64(seed)))
		d := &drawer{r: r, p: newPlain(), buckets: []string{"one", "two", "abc", "x.y"}[:1+seed%4], keys: []string{"k", "a/1", "a/2", "\xff", "b"}[:1+seed%5], tokens: 4 + seed*8}
		m, again := meta.New(), meta.New()
		for step := range 700 {
			index, c := d.index(), d.next()
			want := d.p.apply(index, c)
			what := fmt.Sprintf("seed %d, step %d, at %d: %s", seed, step, index, short(c))
			if got, other := m.Apply(index, c), again.Apply(index, c); got != want || other != want {
				t.Fatalf("%s: %v, saved and loaded %v, not %v", what, got, other, want)
			}
			codes[want.Code]++
			if m.Save() != again.Save() {
				t.Fatalf("%s: two machines are not the same", what)
			}
			if step%25 == 0 {
				d.p.answers(t, m, d.buckets, d.keys)
				d.p.answers(t, again, d.buckets, d.keys)
			}
			if r.Intn(5) == 0 {
				var e api.Errno
				if again, e = meta.Load(again.Save()); e != api.OK {
					t.Fatalf("%s: Load: %v", what, e)
				}
			}
			if t.Failed() {
				t.Fatal(what)
			}
		}
	}
	for _, e := range []api.Errno{api.OK, api.ErrArg, api.ErrNone, api.ErrThere, api.ErrMany, api.ErrPart, api.ErrSmall, api.ErrClash, api.ErrFilled, api.ErrKey, api.ErrVersion, api.ErrUpload} {
		if codes[int(e)] < 20 {
			t.Errorf("too little happened: %v %d times", e, codes[int(e)])
		}
	}
}

// Promise 17.3: what is done at other indexes is the same but for its numbers: which indexes there are between does not count.
func TestGaps(t *testing.T) {
	a, b := meta.New(), meta.New()
	for i, c := range []api.Cmd{makes("one"), puts("one", "k", 1), with("t", marks("one", "k")), with("t", marks("one", "k"))} {
		x, y := a.Apply(i+1, c), b.Apply(100*(i+1), c)
		if x.Code != y.Code || 100*x.ID != y.ID || x.Sum != y.Sum {
			t.Errorf("%v, %v", x, y)
		}
	}
	isChain(t, b, "one", "k", marker(300), object(200, 1))
}

// scribbled are texts in memory that a test can write over.
type scribbled struct{ all [][]byte }

// text is a text in such memory.
func (s *scribbled) text(of string) string {
	if of == "" {
		return ""
	}
	b := []byte(of)
	s.all = append(s.all, b)
	return unsafe.String(&b[0], len(b))
}

// command is a command in such memory.
func (s *scribbled) command(c api.Cmd) api.Cmd {
	c.Token, c.Bucket, c.Key, c.Sum = s.text(c.Token), s.text(c.Bucket), s.text(c.Key), s.text(c.Sum)
	c.Pieces, c.Picks = slices.Clone(c.Pieces), slices.Clone(c.Picks)
	for i := range c.Pieces {
		c.Pieces[i].ID = s.text(c.Pieces[i].ID)
	}
	for i := range c.Picks {
		c.Picks[i].Sum = s.text(c.Picks[i].Sum)
	}
	return c
}

// over writes over all of it.
func (s *scribbled) over() {
	for _, b := range s.all {
		for i := range b {
			b[i] = '!'
		}
	}
	s.all = nil
}

// someCommands have something of each kind; of each that has one a token, too.
func someCommands() []api.Cmd {
	return []api.Cmd{
		with("token-1", makes("bucket")), with("token-2", puts("bucket", "key-1", 1, pieces(70, 80)...)), with("token-3", marks("bucket", "key-1")), puts("bucket", "key-1", 2, pieces(70, 90)...),
		with("token-4", begins("bucket", "key-2")), with("token-5", brings("bucket", "key-2", 5, 1, 3, pieces(70)...)), brings("bucket", "key-2", 5, 2, 4, pieces(91)...), with("token-6", joins("bucket", "key-2", 5, pick(1, 3), pick(2, 4))),
		with("token-7", begins("bucket", "key-3")), brings("bucket", "key-3", 9, 7, 3, pieces(70, 1)...), brings("bucket", "key-3", 9, 3, 3, pieces(2)...), with("token-8", erases("bucket", "key-1", 4)), makes("other"), with("token-9", drops("other")),
		begins("bucket", "key-4"), with("token-a", stops("bucket", "key-4", 15)), puts("bucket", "folder/key", 9), expires(1), with("token-b", drops("bucket")), puts("bucket", "", 1), with("token-2", makes("bucket")),
	}
}

// Rule R3: nothing that was handed in is kept: what is written over it later is not to be seen. Nothing of it is changed, either.
func TestKeepsNothing(t *testing.T) {
	a, b := meta.New(), meta.New()
	for i, c := range someCommands() {
		var s scribbled
		given := s.command(c)
		given.Pieces = append(given.Pieces, pieces(7, 7)...)[:len(c.Pieces)]
		given.Picks = append(given.Picks, pick(7, 7), pick(7, 7))[:len(c.Picks)]
		x, y := a.Apply(i+1, c), b.Apply(i+1, given)
		same(t, "what was handed in", fmt.Sprint(given), fmt.Sprint(c))
		same(t, "behind its pieces", given.Pieces[len(c.Pieces):len(c.Pieces)+2], pieces(7, 7))
		same(t, "behind its picks", given.Picks[len(c.Picks):len(c.Picks)+2], []api.Pick{pick(7, 7), pick(7, 7)})
		s.over()
		for i := range given.Pieces {
			given.Pieces[i].Size = 77
		}
		clear(given.Picks)
		if x != y || a.Save() != b.Save() {
			t.Fatalf("%s: %v, %v; what was handed in is kept", short(c), x, y)
		}
	}
	want := a.Save()
	var s scribbled
	m, e := meta.Load(s.text(want))
	s.over()
	if e != api.OK || m.Save() != want {
		t.Errorf("the text is kept: %v", e)
	}
	saidBy(t, m)
	bucket, key := s.text("bucket"), s.text("key-1")
	l, _ := m.Chain(bucket, key)
	v, _ := m.Get(bucket, key, 2)
	items, _, _ := m.List(bucket, s.text("f"), s.text("/"), s.text("a"), 9)
	told := fmt.Sprint(l, v, items)
	s.over()
	same(t, "what was answered", fmt.Sprint(l, v, items), told)
}

// Rule R3: what is answered is of its own memory, list by list and text by text; what is written over it is not to be seen.
func TestSharesNothing(t *testing.T) {
	m := meta.New()
	var all []span
	var answers []any // what was answered stays, so that its memory is not another one's later on
	take := func(what string, answer any) {
		t.Helper()
		answers = append(answers, answer)
		all = append(all, spans(answer)...)
		disjoint(t, what, all)
	}
	for range 2 { // the second time what is kept is answered
		for _, c := range someCommands() {
			var s scribbled
			given := s.command(c)
			take("what is handed in", given)
			take("Apply", m.Apply(m.Index()+1, given))
		}
	}
	if l, e := m.Parts("bucket", "key-3", 9); len(l) != 2 || e != api.OK {
		t.Errorf("Parts: %v, %v", l, e)
	}
	want := m.Save()
	var heap scribbled
	given := heap.text(want)
	take("what is handed in", given)
	loaded, _ := meta.Load(given)
	for range 2 {
		for _, m := range []*meta.Machine{m, loaded} {
			take("Buckets", m.Buckets())
			take("Tokens", m.Tokens())
			take("Refs", m.Refs())
			take("Save", m.Save())
			uploads, _ := m.Uploads("bucket")
			take("Uploads", uploads)
			for _, u := range uploads {
				l, _ := m.Parts("bucket", u.Key, u.ID)
				take("Parts", l)
			}
			items, _, _ := m.List("bucket", "", "/", "", 9)
			take("List", items)
			for _, key := range []string{"key-1", "key-2", "folder/key"} {
				l, _ := m.Chain("bucket", key)
				take("Chain", l)
				for _, v := range l {
					v, _ := m.Get("bucket", key, v.ID)
					take("Get", v)
				}
				v, _ := m.Get("bucket", key, 0)
				take("Get", v)
			}
		}
	}
	if len(all) < 400 {
		t.Errorf("%d stretches of memory", len(all))
	}
	runtime.KeepAlive(answers)
	overwrite(m)
	if m.Save() != want || loaded.Save() != want {
		t.Errorf("the machine has changed")
	}
}

// overwrite writes over the lists that a machine answers.
func overwrite(m *meta.Machine) {
	clear(m.Buckets())
	clear(m.Tokens())
	clear(m.Refs())
	uploads, _ := m.Uploads("bucket")
	for _, u := range uploads {
		l, _ := m.Parts("bucket", u.Key, u.ID)
		for _, p := range l {
			clear(p.Pieces)
		}
		clear(l)
	}
	clear(uploads)
	for _, key := range []string{"key-1", "key-2", "folder/key"} {
		l, _ := m.Chain("bucket", key)
		v, _ := m.Get("bucket", key, 0)
		clear(v.Pieces)
		for _, v := range l {
			clear(v.Pieces)
		}
		clear(l)
	}
}

// Rules R1 and R3: asking changes nothing, whatever is asked.
func TestAskingChangesNothing(t *testing.T) {
	m := meta.New()
	for i, c := range someCommands() {
		m.Apply(i+1, c)
	}
	want := m.Save()
	texts := []string{"", "bucket", "other", "key-1", "key-2", "key-3", "\x00", "\xff", "/", strings.Repeat("k", 5000)}
	for _, a := range texts {
		m.Uploads(a)
		for _, b := range texts {
			m.Chain(a, b)
			m.List(a, b, b, b, 2)
			for _, id := range []int{0, 2, 3, 9, -1, -1 << 63, 1<<63 - 1} {
				m.Get(a, b, id)
				m.Parts(a, b, id)
				m.List(a, b, "/", "", id)
			}
		}
	}
	if m.Save() != want {
		t.Errorf("asking has changed something")
	}
}
