package meta_test

import (
	"fmt"
	"reflect"
	"slices"
	"strings"
	"testing"
	"unsafe"

	"stowage/api"
	"stowage/chain"
	"stowage/cmd"
	"stowage/meta"
	"stowage/parts"
	"stowage/token"
)

// rep is one text n times.
func rep(s string, n int) string { return strings.Repeat(s, n) }

// digits is a digest's digits by a number.
func digits(n int) string { return fmt.Sprintf("%064x", n) }

// pieces are pieces of these sizes, whose ids hang on the sizes alone.
func pieces(sizes ...int) []api.Piece {
	var l []api.Piece
	for _, size := range sizes {
		l = append(l, api.Piece{ID: digits(size), Size: size})
	}
	return l
}

// many are n pieces of one size.
func many(n, size int) []api.Piece { return pieces(slices.Repeat([]int{size}, n)...) }

// sizeOf is the size of pieces.
func sizeOf(l []api.Piece) int {
	n := 0
	for _, p := range l {
		n += p.Size
	}
	return n
}

// object is a version that CmdPut makes.
func object(id, sum int, l ...api.Piece) api.Version {
	return api.Version{ID: id, Size: sizeOf(l), Sum: digits(sum), Pieces: l}
}

// marker is a version that CmdMark makes.
func marker(id int) api.Version { return api.Version{ID: id, Mark: true} }

// The commands.
func makes(bucket string) api.Cmd { return api.Cmd{Kind: api.CmdMake, Bucket: bucket} }
func drops(bucket string) api.Cmd { return api.Cmd{Kind: api.CmdDrop, Bucket: bucket} }
func puts(bucket, key string, sum int, l ...api.Piece) api.Cmd {
	return api.Cmd{Kind: api.CmdPut, Bucket: bucket, Key: key, Sum: digits(sum), Pieces: l}
}
func marks(bucket, key string) api.Cmd {
	return api.Cmd{Kind: api.CmdMark, Bucket: bucket, Key: key}
}
func erases(bucket, key string, id int) api.Cmd {
	return api.Cmd{Kind: api.CmdErase, Bucket: bucket, Key: key, ID: id}
}
func begins(bucket, key string) api.Cmd {
	return api.Cmd{Kind: api.CmdBegin, Bucket: bucket, Key: key}
}
func brings(bucket, key string, id, n, sum int, l ...api.Piece) api.Cmd {
	return api.Cmd{Kind: api.CmdPart, Bucket: bucket, Key: key, ID: id, N: n, Sum: digits(sum), Pieces: l}
}
func joins(bucket, key string, id int, l ...api.Pick) api.Cmd {
	return api.Cmd{Kind: api.CmdJoin, Bucket: bucket, Key: key, ID: id, Picks: l}
}
func stops(bucket, key string, id int) api.Cmd {
	return api.Cmd{Kind: api.CmdStop, Bucket: bucket, Key: key, ID: id}
}
func expires(upto int) api.Cmd { return api.Cmd{Kind: api.CmdExpire, ID: upto} }

// pick names a part.
func pick(n, sum int) api.Pick { return api.Pick{N: n, Sum: digits(sum)} }

// with is a command with a token.
func with(name string, c api.Cmd) api.Cmd {
	c.Token = name
	return c
}

// failed is the outcome of an error.
func failed(e api.Errno) api.Out { return api.Out{Code: int(e)} }

// short is a command, for what a test tells.
func short(c api.Cmd) string {
	return fmt.Sprintf("kind %d, token %.70q, %.70q/%.20q, ID %d, N %d, sum %.70q, %d pieces, %.99v", c.Kind, c.Token, c.Bucket, c.Key, c.ID, c.N, c.Sum, len(c.Pieces), fmt.Sprint(c.Picks))
}

// does asks what comes of a command at the next index. An error, but for a token's that is kept, leaves all but the index as it was.
func does(t *testing.T, m *meta.Machine, c api.Cmd, want api.Out) {
	t.Helper()
	index, before := m.Index()+1, saidBy(t, m)
	if got := m.Apply(index, c); got != want {
		t.Errorf("at %d, %s: %v, not %v", index, short(c), got, want)
	}
	if m.Index() != index {
		t.Errorf("%s: the index is %d, not %d", short(c), m.Index(), index)
	}
	if want.Code != 0 && c.Token == "" {
		before.index = uint64(index)
		if m.Save() != before.text() {
			t.Errorf("%s, refused, has changed something", short(c))
		}
	}
}

// fails asks that a command at the next index fails, and changes nothing but that.
func fails(t *testing.T, m *meta.Machine, c api.Cmd, e api.Errno) {
	t.Helper()
	does(t, m, c, failed(e))
}

// driven is a machine behind commands at 1, 2 and so on, each of which is done.
func driven(t *testing.T, l ...api.Cmd) *meta.Machine {
	t.Helper()
	m := meta.New()
	run(t, m, l...)
	return m
}

// run drives a machine by commands at the next indexes, each of which is done.
func run(t *testing.T, m *meta.Machine, l ...api.Cmd) {
	t.Helper()
	for _, c := range l {
		if o := m.Apply(m.Index()+1, c); o.Code != 0 {
			t.Fatalf("at %d, %s: %v", m.Index(), short(c), o)
		}
	}
}

// number is a number's bytes by the words of chapter 1.
func number(n uint64) string {
	s := ""
	for n >= 128 {
		s += string([]byte{byte(n%128) + 128})
		n /= 128
	}
	return s + string([]byte{byte(n)})
}

// text is a text's bytes.
func text(s string) string { return number(uint64(len(s))) + s }

// said is what a machine's text says, may it be or not; chains, parts and the table as their texts.
type said struct {
	buckets []saidBucket
	table   string
	index   uint64
}
type saidBucket struct {
	name    string
	keys    []saidKey
	uploads []saidUpload
}
type saidKey struct{ key, chain string }
type saidUpload struct {
	id         uint64
	key, parts string
}

// atoms are the numbers and texts of a machine's text, one by one.
func (s said) atoms() []string {
	all := []string{number(uint64(len(s.buckets)))}
	for _, b := range s.buckets {
		all = append(all, text(b.name), number(uint64(len(b.keys))))
		for _, k := range b.keys {
			all = append(all, text(k.key), text(k.chain))
		}
		all = append(all, number(uint64(len(b.uploads))))
		for _, u := range b.uploads {
			all = append(all, number(u.id), text(u.key), text(u.parts))
		}
	}
	return append(all, text(s.table), number(s.index))
}

// text is the machine's text.
func (s said) text() string { return strings.Join(s.atoms(), "") }

// saidBy is what a machine tells of itself, as a text would: by its calls, and its keys by its own text, since markers' are not listed.
func saidBy(t *testing.T, m *meta.Machine) said {
	t.Helper()
	s := said{table: tableText(t, m.Tokens()...), index: uint64(m.Index())}
	keys := keysOf(t, m)
	for _, name := range m.Buckets() {
		b := saidBucket{name: name}
		for _, key := range keys[name] {
			l, e := m.Chain(name, key)
			if e != api.OK {
				t.Fatalf("Chain(%q, %q): %v", name, key, e)
			}
			b.keys = append(b.keys, saidKey{key, chainText(t, l...)})
		}
		uploads, e := m.Uploads(name)
		if e != api.OK {
			t.Fatalf("Uploads(%q): %v", name, e)
		}
		for _, u := range uploads {
			l, e := m.Parts(name, u.Key, u.ID)
			if e != api.OK {
				t.Fatalf("Parts(%q, %q, %d): %v", name, u.Key, u.ID, e)
			}
			b.uploads = append(b.uploads, saidUpload{uint64(u.ID), u.Key, partsText(t, l...)})
		}
		s.buckets = append(s.buckets, b)
	}
	if s.text() != m.Save() {
		t.Fatalf("Save tells something else than the other calls")
	}
	return s
}

// keysOf are the keys of each bucket, out of a machine's text.
func keysOf(t *testing.T, m *meta.Machine) map[string][]string {
	t.Helper()
	s := m.Save()
	num := func() int {
		n, place := 0, 1
		for {
			c := int(s[0])
			s = s[1:]
			n += c % 128 * place
			place *= 128
			if c < 128 {
				return n
			}
		}
	}
	str := func() string {
		n := num()
		x := s[:n]
		s = s[n:]
		return x
	}
	all := map[string][]string{}
	for range num() {
		name := str()
		for range num() {
			all[name] = append(all[name], str())
			str()
		}
		for range num() {
			num()
			str()
			str()
		}
	}
	return all
}

// chainText is a chain's text.
func chainText(t *testing.T, l ...api.Version) string {
	t.Helper()
	s, e := chain.Encode(l)
	if e != api.OK {
		t.Fatalf("no chain: %v", l)
	}
	return s
}

// partsText is parts' text.
func partsText(t *testing.T, l ...api.Part) string {
	t.Helper()
	s, e := parts.Encode(l)
	if e != api.OK {
		t.Fatalf("no parts: %v", l)
	}
	return s
}

// tableText is a table's text.
func tableText(t *testing.T, l ...api.Held) string {
	t.Helper()
	s, e := token.Encode(l)
	if e != api.OK {
		t.Fatalf("no table: %v", l)
	}
	return s
}

// held is the kept token of a command and its outcome.
func held(c api.Cmd, o api.Out, at int) api.Held {
	sum, _ := cmd.Digest(c)
	out, _ := cmd.EncodeOut(o)
	return api.Held{Token: c.Token, Sum: sum, Out: out, At: at}
}

// same asks that two things are the same; a nil list and an empty one are.
func same(t *testing.T, what string, got, want any) {
	t.Helper()
	a, b := reflect.ValueOf(got), reflect.ValueOf(want)
	if a.Kind() == reflect.Slice && a.Len() == 0 && b.Len() == 0 {
		return
	}
	if !reflect.DeepEqual(got, want) {
		t.Errorf("%s: %.400v, not %.400v", what, fmt.Sprint(got), fmt.Sprint(want))
	}
}

// isVersion asks what Get answers.
func isVersion(t *testing.T, m *meta.Machine, bucket, key string, id int, want api.Version, wrong api.Errno) {
	t.Helper()
	v, e := m.Get(bucket, key, id)
	what := fmt.Sprintf("Get(%q, %.20q, %d)", bucket, key, id)
	if e != wrong {
		t.Errorf("%s: %v, not %v", what, e, wrong)
	}
	if v.Pieces == nil {
		v.Pieces = want.Pieces[:0]
	}
	same(t, what, v, want)
}

// isChain asks what Chain answers.
func isChain(t *testing.T, m *meta.Machine, bucket, key string, want ...api.Version) {
	t.Helper()
	l, e := m.Chain(bucket, key)
	what := fmt.Sprintf("Chain(%q, %.20q)", bucket, key)
	if e != api.OK {
		t.Errorf("%s: %v", what, e)
	}
	same(t, what, l, want)
}

// noKey asks that there is no such key, or no such bucket.
func noKey(t *testing.T, m *meta.Machine, bucket, key string, wrong api.Errno) {
	t.Helper()
	if l, e := m.Chain(bucket, key); e != wrong || len(l) != 0 {
		t.Errorf("Chain(%q, %.20q): %v, %v", bucket, key, l, e)
	}
	for _, id := range []int{0, 1, 2, -1, 1 << 40} {
		isVersion(t, m, bucket, key, id, api.Version{}, wrong)
	}
}

// isUploads asks what Uploads answers.
func isUploads(t *testing.T, m *meta.Machine, bucket string, want ...api.Upload) {
	t.Helper()
	l, e := m.Uploads(bucket)
	if e != api.OK {
		t.Errorf("Uploads(%q): %v", bucket, e)
	}
	same(t, "Uploads", l, want)
}

// isParts asks what Parts answers.
func isParts(t *testing.T, m *meta.Machine, bucket, key string, id int, wrong api.Errno, want ...api.Part) {
	t.Helper()
	l, e := m.Parts(bucket, key, id)
	if e != wrong {
		t.Errorf("Parts(%q, %.20q, %d): %v, not %v", bucket, key, id, e, wrong)
	}
	same(t, "Parts", l, want)
}

// isKeys asks that a bucket lists these keys, and no others.
func isKeys(t *testing.T, m *meta.Machine, bucket string, want ...string) {
	t.Helper()
	var items []api.Item
	for _, key := range want {
		items = append(items, api.Item{Name: key})
	}
	l, more, e := m.List(bucket, "", "", "", 1000)
	if more || e != api.OK {
		t.Errorf("List(%q): %v, %v", bucket, more, e)
	}
	same(t, "List", l, items)
}

// span is a stretch of memory.
type span struct{ from, to uintptr }

// textSpan is where a text stands.
func textSpan(s string) span {
	from := uintptr(unsafe.Pointer(unsafe.StringData(s)))
	return span{from, from + uintptr(len(s))}
}

// spans are all stretches of memory of texts, of lists, with the room behind them, and of what these have.
func spans(v any) []span { return spansOf(reflect.ValueOf(v)) }

func spansOf(v reflect.Value) []span {
	var all []span
	switch v.Kind() {
	case reflect.String:
		all = append(all, textSpan(v.String()))
	case reflect.Struct:
		for i := range v.NumField() {
			all = append(all, spansOf(v.Field(i))...)
		}
	case reflect.Slice:
		from := uintptr(v.UnsafePointer())
		all = append(all, span{from, from + uintptr(v.Cap())*v.Type().Elem().Size()})
		for i := range v.Len() {
			all = append(all, spansOf(v.Index(i))...)
		}
	}
	return all
}

// disjoint asks that no two stretches have a byte in common.
func disjoint(t *testing.T, what string, all []span) {
	t.Helper()
	all = slices.DeleteFunc(slices.Clone(all), func(s span) bool { return s.from == s.to })
	slices.SortFunc(all, func(a, b span) int {
		if a.from < b.from {
			return -1
		}
		return 1
	})
	for i := 1; i < len(all); i++ {
		if all[i].from < all[i-1].to {
			t.Errorf("%s: one memory", what)
			return
		}
	}
}
