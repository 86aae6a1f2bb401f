package meta_test

import (
	"fmt"
	"math"
	"slices"
	"strings"
	"testing"

	"stowage/api"
	"stowage/cmd"
	"stowage/meta"
)

// full is what the text of a machine says that has something of each kind, at the index 20.
func full(t *testing.T) said {
	t.Helper()
	put := with("b", puts("one", "k", 1))
	return said{
		buckets: []saidBucket{
			{name: "empty"},
			{
				name: "one",
				keys: []saidKey{
					{"a", chainText(t, object(3, 1, pieces(5, 300)...))},
					{"k", chainText(t, marker(20), object(9, 2), marker(2))},
					{"z", chainText(t, object(4, 1, pieces(5)...))},
				},
				uploads: []saidUpload{
					{5, "u", partsText(t, api.Part{N: 1, Size: 64, Sum: digits(1), Pieces: pieces(64)}, api.Part{N: 100, Sum: digits(2)})},
					{7, "k", partsText(t)},
					{20, "a", partsText(t, api.Part{N: 2, Size: 5, Sum: digits(1), Pieces: pieces(5)})},
				},
			},
			{name: "two", uploads: []saidUpload{{6, "u", partsText(t)}}},
		},
		table: tableText(t, held(with("a", makes("one")), failed(api.ErrThere), 10), held(put, api.Out{ID: 9, Sum: digits(1)}, 20)),
		index: 20,
	}
}

// changed is what the text of a full machine says, with something changed.
func changed(t *testing.T, change func(s *said)) said {
	t.Helper()
	s := full(t)
	change(&s)
	return s
}

// loads asks that a text says a machine, which tells the same text, and the same by its other calls.
func loads(t *testing.T, what string, s said) *meta.Machine {
	t.Helper()
	m, e := meta.Load(s.text())
	if e != api.OK || m == nil {
		t.Fatalf("Load of %s: %v", what, e)
	}
	if m.Save() != s.text() || saidBy(t, m).text() != s.text() {
		t.Errorf("Load of %s: another machine", what)
	}
	return m
}

// noText asks that a text is refused, and nothing is told beside the error.
func noText(t *testing.T, what, s string) {
	t.Helper()
	if m, e := meta.Load(s); e != api.ErrForm || m != nil {
		t.Errorf("Load of %s (%.100q): %v, %v", what, s, m != nil, e)
	}
}

// Promise 17.2: a machine's text, byte by byte.
func TestSave(t *testing.T) {
	m := meta.New()
	m.Apply(2, with("t", makes("one")))
	m.Apply(3, puts("one", "k", 1, pieces(300)...))
	m.Apply(4, marks("one", "k"))
	m.Apply(5, begins("one", "u"))
	m.Apply(6, brings("one", "u", 5, 2, 3, pieces(7)...))
	m.Apply(300, begins("one", "u"))
	m.Apply(301, makes("abc"))
	sum, _ := cmd.Digest(makes("one"))
	one := "\x02\x04\x01\x03\x00\x01\x40" + digits(300) + "\xac\x02\x40" + digits(1)
	part := "\x01\x02\x01\x40" + digits(7) + "\x07\x40" + digits(3)
	table := "\x01\x01t\x40" + sum + "\x03\x00\x00\x00\x02"
	want := "\x02" + "\x03abc\x00\x00" + "\x03one" + "\x01\x01k" + text(one) + "\x02" + "\x05\x01u" + text(part) + "\xac\x02\x01u\x01\x00" + text(table) + "\xad\x02"
	if got := m.Save(); got != want {
		t.Errorf("Save: %q, not %q", got, want)
	}
	again, e := meta.Load(want)
	if e != api.OK || again.Save() != want || again.Index() != 301 {
		t.Errorf("Load: %v", e)
	}
	if _, e := meta.Load(meta.New().Save()); e != api.OK {
		t.Errorf("Load of a new machine's text: %v", e)
	}
}

// Promise 17.2: what a text says is there, and goes on as it was.
func TestLoad(t *testing.T) {
	m := loads(t, "a full machine", full(t))
	if m.Index() != 20 {
		t.Errorf("the index %d", m.Index())
	}
	same(t, "Buckets", m.Buckets(), []string{"empty", "one", "two"})
	isChain(t, m, "one", "k", marker(20), object(9, 2), marker(2))
	isVersion(t, m, "one", "a", 0, object(3, 1, pieces(5, 300)...), api.OK)
	isKeys(t, m, "one", "a", "z")
	isUploads(t, m, "one", api.Upload{ID: 5, Key: "u"}, api.Upload{ID: 7, Key: "k"}, api.Upload{ID: 20, Key: "a"})
	isParts(t, m, "one", "u", 5, api.OK, api.Part{N: 1, Size: 64, Sum: digits(1), Pieces: pieces(64)}, api.Part{N: 100, Sum: digits(2)})
	same(t, "Refs", m.Refs(), []string{digits(5), digits(64), digits(300)})
	if o := m.Apply(20, makes("new")); o != failed(api.ErrArg) {
		t.Errorf("at its own index: %v", o)
	}
	does(t, m, with("a", makes("one")), failed(api.ErrThere))
	does(t, m, with("b", puts("one", "k", 1)), api.Out{ID: 9, Sum: digits(1)})
	does(t, m, with("b", puts("one", "k", 2)), failed(api.ErrClash))
	does(t, m, puts("one", "k", 5), api.Out{ID: 24, Sum: digits(5)})
	does(t, m, joins("one", "u", 5, pick(1, 1)), api.Out{ID: 25, Sum: joined(1)})
	does(t, m, drops("empty"), api.Out{})
	does(t, m, expires(10), api.Out{ID: 1})
}

// Promise 17.2: a text that is cut anywhere, or has more behind it, or ahead of it, is none (but that its end may be another machine's).
func TestTextCut(t *testing.T) {
	for _, s := range []string{full(t).text(), meta.New().Save(), driven(t, makes("one"), puts("one", "k", 1, pieces(5)...)).Save()} {
		for i := range len(s) {
			noText(t, fmt.Sprintf("the first %d bytes", i), s[:i])
			oneForm(t, s[i+1:])
		}
		for _, more := range []string{"\x00", "\x01", "\x80", "\xff", "x", s} {
			noText(t, "more behind it", s+more)
		}
		noText(t, "more ahead of it", "\x00"+s)
	}
	// Inner texts that are cut, or have more behind them, within texts of the right number of bytes.
	for _, inner := range []struct {
		what string
		of   func(s *said) *string
	}{
		{"a chain", func(s *said) *string { return &s.buckets[1].keys[0].chain }},
		{"a chain", func(s *said) *string { return &s.buckets[1].keys[1].chain }},
		{"parts", func(s *said) *string { return &s.buckets[1].uploads[0].parts }},
		{"no parts", func(s *said) *string { return &s.buckets[2].uploads[0].parts }},
		{"a table", func(s *said) *string { return &s.table }},
	} {
		base := full(t)
		whole := *inner.of(&base)
		for i := range len(whole) {
			noText(t, inner.what+" that is cut", changed(t, func(s *said) { *inner.of(s) = whole[:i] }).text())
		}
		for _, more := range []string{"\x00", "\x01", "x", "\xff", whole} {
			noText(t, inner.what+" with more behind it", changed(t, func(s *said) { *inner.of(s) = whole + more }).text())
		}
	}
}

// Promise 17.2: names of buckets and keys that may be, and rise, and such that do not.
func TestTextNames(t *testing.T) {
	bucket := func(at int, name string) said {
		return changed(t, func(s *said) { s.buckets[at].name = name })
	}
	key := func(at int, name string) said {
		return changed(t, func(s *said) { s.buckets[1].keys[at].key = name })
	}
	upload := func(at int, name string) said {
		return changed(t, func(s *said) { s.buckets[1].uploads[at].key = name })
	}
	for _, name := range []string{"", "ab", "Abc", "a..b", "one.", "-one", "o_e", "one\x00", rep("e", 64), rep("e", 1024), rep("e", 1025), rep("e", 5000)} {
		for at := range 3 {
			noText(t, "a bucket that may not be", bucket(at, name).text())
		}
	}
	for _, name := range []string{"one", "onf", "two", "zzz"} {
		noText(t, "a bucket behind the next one", bucket(0, name).text())
	}
	for _, name := range []string{"empty", "aaa", "one", "on1"} {
		noText(t, "a bucket ahead of the last one", bucket(2, name).text())
	}
	loads(t, "buckets that rise", bucket(0, "om"+rep("z", 61)))
	loads(t, "buckets that rise", bucket(0, "0.0"))
	loads(t, "buckets that rise", bucket(2, "one0"))
	for _, name := range []string{"", "\x00", "k\x00", rep("k", 1025), rep("k", 5000)} {
		for at := range 3 {
			noText(t, "a key that may not be", key(at, name).text())
			noText(t, "an upload's key that may not be", upload(at, name).text())
		}
	}
	for _, name := range []string{"k", "z", "k\x01", "\xff", "zz"} {
		noText(t, "a key behind the next one", key(0, name).text())
	}
	for _, name := range []string{"a", "A", "k", "j\xff", "k"} {
		noText(t, "a key ahead of the last one", key(2, name).text())
	}
	loads(t, "keys that rise", key(0, rep("j", 1024)))
	loads(t, "keys that rise", key(2, "k\x01"))
	loads(t, "keys that rise", key(2, rep("\xff", 1024)))
	// Keys of uploads are in no order.
	for _, name := range []string{"z", "a", "k", "\xff", rep("u", 1024)} {
		loads(t, "an upload of another key", upload(0, name))
		loads(t, "an upload of another key", upload(2, name))
	}
}

// Promise 17.2: numbers of uploads that rise, and such that do not; numbers of versions and uploads, and At of tokens, beyond the index.
func TestTextNumbers(t *testing.T) {
	upload := func(at int, id uint64) said {
		return changed(t, func(s *said) { s.buckets[1].uploads[at].id = id })
	}
	for _, id := range []uint64{7, 8, 20, 21, 0, 1 << 41, math.MaxUint64} {
		noText(t, fmt.Sprintf("the first upload as %d", id), upload(0, id).text())
	}
	for _, id := range []uint64{0, 4, 5, 20, 21} {
		noText(t, fmt.Sprintf("the second upload as %d", id), upload(1, id).text())
	}
	for _, id := range []uint64{0, 5, 7, 21, 22, 1 << 40, 1<<40 + 1, 1<<63 + 20} {
		noText(t, fmt.Sprintf("the last upload as %d", id), upload(2, id).text())
	}
	loads(t, "other uploads", upload(0, 1))
	loads(t, "other uploads", upload(0, 6))
	loads(t, "other uploads", upload(2, 8))
	loads(t, "other uploads", upload(2, 19))
	at := func(index uint64) said { return changed(t, func(s *said) { s.index = index }) }
	for _, index := range []uint64{0, 1, 10, 19, 1<<40 + 1, 1 << 41, 1 << 63, math.MaxUint64} {
		noText(t, fmt.Sprintf("the index %d", index), at(index).text())
	}
	for _, index := range []uint64{20, 21, 1<<40 - 1, 1 << 40} {
		if m := loads(t, "another index", at(index)); m.Index() != int(index) {
			t.Errorf("the index %d", m.Index())
		}
	}
	// Each of the three by itself, at the index and one beyond it.
	for _, c := range []struct {
		what string
		of   func(id int) said
	}{
		{"an object", func(id int) said {
			return said{buckets: []saidBucket{{name: "one", keys: []saidKey{{"k", chainText(t, object(id, 1), marker(1))}}}}, table: "\x00", index: 9}
		}},
		{"a marker", func(id int) said {
			return said{buckets: []saidBucket{{name: "one"}, {name: "two", keys: []saidKey{{"j", chainText(t, marker(2))}, {"k", chainText(t, marker(id), object(1, 1))}}}}, table: "\x00", index: 9}
		}},
		{"an upload", func(id int) said {
			return said{buckets: []saidBucket{{name: "one", uploads: []saidUpload{{1, "k", "\x00"}, {uint64(id), "k", "\x00"}}}}, table: "\x00", index: 9}
		}},
		{"a token", func(id int) said {
			return said{table: tableText(t, held(with("a", makes("one")), api.Out{}, id), held(with("b", makes("one")), api.Out{}, 2)), index: 9}
		}},
	} {
		for _, id := range []int{2, 8, 9} {
			loads(t, c.what, c.of(id))
		}
		for _, id := range []int{10, 11, 300, 1 << 40} {
			noText(t, fmt.Sprintf("%s of %d at 9", c.what, id), c.of(id).text())
		}
	}
	// An outcome's number may be any.
	loads(t, "an outcome of a later number", said{table: tableText(t, held(with("a", makes("one")), api.Out{ID: 1 << 40}, 1)), index: 1})
}

// Promise 17.2: no empty chain; chains, parts and tables that are none; an Out that is no outcome's text.
func TestTextInner(t *testing.T) {
	one := chainText(t, object(3, 1, pieces(5)...))
	for _, s := range []string{"\x00", "", "\x01", "\x01\x00\x01", "\x02\x03\x01\x03\x01", "\x02\x03\x01\x04\x01", strings.Replace(one, "0", "g", 1), strings.Replace(one, digits(1), strings.ToUpper(rep("f", 64)), 1)} {
		for at := range 3 {
			noText(t, "no chain", changed(t, func(c *said) { c.buckets[1].keys[at].chain = s }).text())
		}
	}
	for _, s := range []string{"", "\x01", "\x01\x00\x00\x40" + digits(1), "\x01\x65\x00\x40" + digits(1), "\x02\x02\x00\x40" + digits(1) + "\x02\x00\x40" + digits(1)} {
		for at := range 3 {
			noText(t, "no parts", changed(t, func(c *said) { c.buckets[1].uploads[at].parts = s }).text())
		}
	}
	a, b := held(with("a", makes("one")), api.Out{}, 10), held(with("b", makes("one")), api.Out{}, 11)
	table := func(l ...api.Held) said { return changed(t, func(c *said) { c.table = tableText(t, l...) }) }
	loads(t, "two tokens", table(a, b))
	for _, s := range []string{"", "\x01", "\x00\x00", tableText(t, a)[1:], "\x02" + tableText(t, b)[1:] + tableText(t, a)[1:], "\x02" + tableText(t, a)[1:] + tableText(t, a)[1:]} {
		noText(t, "no table", changed(t, func(c *said) { c.table = s }).text())
	}
	outcome := func(o api.Out) string { return held(api.Cmd{}, o, 1).Out }
	for _, out := range []string{outcome(api.Out{}), outcome(api.Out{Code: 999, ID: 1 << 40, Sum: rep("x", 64)}), outcome(api.Out{Code: 4}), "\x00\x09\x02hi"} {
		for at := range 2 {
			l := []api.Held{a, b}
			l[at].Out = out
			loads(t, "another outcome", table(l...))
		}
	}
	for _, out := range []string{"", "\x00", "\x00\x00", "\x00\x00\x01", "\x00\x00\x00\x00", "\xe8\x07\x00\x00", "\x00\x81\x80\x80\x80\x80\x20\x00", "\x00\x00\x41" + rep("x", 65), "\x80\x00\x00\x00", "done", rep("\x00", 4096)} {
		for at := range 2 {
			l := []api.Held{a, b}
			l[at].Out = out
			noText(t, fmt.Sprintf("the Out %.20q", out), table(l...).text())
		}
	}
	// What is kept is what is answered, be it as it may.
	put := with("p", puts("not", "k", 1))
	kept := held(put, api.Out{Code: 700, ID: 77, Sum: "any"}, 3)
	does(t, loads(t, "an outcome with all", table(kept)), put, api.Out{Code: 700, ID: 77, Sum: "any"})
}

// limits are what a text says with n of each kind.
func limits(t *testing.T) map[string]struct {
	most int
	of   func(n int) said
} {
	key := func(i int) string { return fmt.Sprintf("k%04d", i) }
	return map[string]struct {
		most int
		of   func(n int) said
	}{
		"buckets": {32, func(n int) said {
			s := said{table: "\x00", index: 9}
			for i := range n {
				s.buckets = append(s.buckets, saidBucket{name: key(i)})
			}
			return s
		}},
		"keys": {256, func(n int) said {
			b := saidBucket{name: "one"}
			for i := range n {
				b.keys = append(b.keys, saidKey{key(i), chainText(t, marker(9))})
			}
			return said{buckets: []saidBucket{b, {name: "two"}}, table: "\x00", index: 9}
		}},
		"uploads": {16, func(n int) said {
			b := saidBucket{name: "one", keys: []saidKey{{"k", chainText(t, marker(3))}}}
			for i := range n {
				b.uploads = append(b.uploads, saidUpload{uint64(i + 1), key(n - i), "\x00"})
			}
			return said{buckets: []saidBucket{b}, table: "\x00", index: 99}
		}},
		"versions": {32, func(n int) said {
			chain := number(uint64(n))
			for i := range n {
				chain += number(uint64(n-i)) + "\x01"
			}
			return said{buckets: []saidBucket{{name: "one", keys: []saidKey{{"k", chain}}}}, table: "\x00", index: 99}
		}},
		"tokens": {64, func(n int) said {
			table := number(uint64(n))
			for i := range n {
				table += text(key(i)) + text(digits(i)) + text("\x00\x00\x00") + "\x05"
			}
			return said{table: table, index: 9}
		}},
	}
}

// Promise 17.2: as many of each kind as may be, and one more; a command more is refused by the one that is full.
func TestTextMost(t *testing.T) {
	for what, l := range limits(t) {
		for _, n := range []int{1, l.most - 1, l.most} {
			loads(t, fmt.Sprintf("%d %s", n, what), l.of(n))
		}
		for _, n := range []int{l.most + 1, l.most + 2, 2 * l.most, 300} {
			noText(t, fmt.Sprintf("%d %s", n, what), l.of(n).text())
		}
		m := loads(t, what, l.of(l.most))
		c := map[string]api.Cmd{"buckets": makes("new"), "keys": puts("one", "new", 1), "uploads": begins("one", "new"), "versions": marks("one", "k"), "tokens": with("new", makes("new"))}[what]
		fails(t, m, c, api.ErrMany)
		m = loads(t, what, l.of(l.most-1))
		if o := m.Apply(m.Index()+1, c); o.Code != 0 {
			t.Errorf("one below the most %s: %v", what, o)
		}
		fails(t, loads(t, what, saidBy(t, m)), map[string]api.Cmd{"buckets": makes("other"), "keys": marks("one", "other"), "uploads": begins("one", "other"), "versions": puts("one", "k", 1), "tokens": with("other", makes("new"))}[what], api.ErrMany)
	}
	for _, s := range []string{"", "\x00", number(32), number(1 << 40), number(math.MaxUint64), "\x01\x03one" + number(256), "\x01\x03one\x00" + number(16), "\x01\x03one\x00" + number(math.MaxUint64)} {
		noText(t, "numbers and nothing", s)
	}
}

// Promise 17.2: each number and text of a text beyond all bounds, in another form, or left out.
func TestTextBounds(t *testing.T) {
	all := full(t).atoms()
	longer := func(s string) string { return string([]byte{s[0] | 128}) + "\x00" + s[1:] }
	for i, atom := range all {
		for _, s := range []string{"", longer(atom), number(1<<40 + 1), number(1 << 63), number(math.MaxUint64), "\xff\xff\xff\xff\xff\xff\xff\xff\xff\x02", "\x80\x80\x80\x80\x80\x80\x80\x80\x80\x80\x01", atom + atom} {
			noText(t, fmt.Sprintf("atom %d as %.60q", i, s), strings.Join(slices.Concat(all[:i], []string{s}, all[i+1:]), ""))
		}
	}
	if len(all) < 30 {
		t.Errorf("%d atoms", len(all))
	}
}

// oneForm asks that a text is refused, or is just what Save tells of the machine that it says.
func oneForm(t *testing.T, s string) {
	t.Helper()
	m, e := meta.Load(s)
	if e != api.OK {
		noText(t, "no machine", s)
		return
	}
	if m.Save() != s || saidBy(t, m).text() != s {
		t.Errorf("Load of %q: another machine", s)
	}
}

// Promise 17.2: a text has one form: with any byte changed it is that of another machine, or of none.
func TestOneText(t *testing.T) {
	small := said{
		buckets: []saidBucket{{name: "one", keys: []saidKey{{"k", chainText(t, marker(3), object(2, 1, pieces(5)...))}}, uploads: []saidUpload{{1, "u", partsText(t, api.Part{N: 1, Sum: digits(1)})}}}},
		table:   tableText(t, held(with("t", makes("one")), api.Out{ID: 1}, 3)),
		index:   300,
	}
	s := small.text()
	fine := 0
	for i := range len(s) {
		for x := range 256 {
			other := s[:i] + string([]byte{byte(x)}) + s[i+1:]
			oneForm(t, other)
			if m, _ := meta.Load(other); m != nil {
				fine++
			}
		}
		oneForm(t, s[:i]+s[i+1:])
		for _, more := range []string{"\x00", "\x01", "\x7f", "\x80", "a"} {
			oneForm(t, s[:i]+more+s[i:])
		}
	}
	if fine < 1000 {
		t.Errorf("%d texts with another byte are a machine's", fine)
	}
	for a := range 256 {
		for b := range 256 {
			oneForm(t, string([]byte{byte(a), byte(b)}))
			oneForm(t, string([]byte{0, 1, byte(a), byte(b)}))
			oneForm(t, string([]byte{byte(a), 1, 0, byte(b)}))
		}
	}
}

// Any bytes are a machine, in their one form, or none.
func FuzzLoad(f *testing.F) {
	t := &testing.T{}
	f.Add(full(t).text())
	f.Add(meta.New().Save())
	f.Add(said{buckets: []saidBucket{{name: "one", keys: []saidKey{{"k", chainText(t, marker(3))}}}}, table: "\x00", index: 3}.text())
	f.Add(said{table: tableText(t, held(with("t", makes("one")), api.Out{ID: 1}, 3)), index: 300}.text())
	f.Fuzz(func(t *testing.T, s string) { oneForm(t, s) })
}
