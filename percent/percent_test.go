package percent_test

import (
	"math/rand"
	"runtime"
	"slices"
	"strings"
	"testing"

	"stowage/api"
	"stowage/percent"
)

// The example of the chapter.
func TestExample(t *testing.T) {
	if s := percent.Path("a b/c"); s != "a%20b/c" {
		t.Errorf("Path: %q", s)
	}
	if s, e := percent.Query(pairs("x y", "1&2", "z", "")); s != "x%20y=1%262&z" || e != api.OK {
		t.Errorf("Query: %q, %v", s, e)
	}
	if l, e := percent.Unquery("a+b=%41&c"); !slices.Equal(l, pairs("a b", "A", "c", "")) || e != api.OK {
		t.Errorf("Unquery: %q, %v", l, e)
	}
}

// Promise 18.1: each byte in a path and in a name, by itself and among others.
func TestWriteBytes(t *testing.T) {
	for c := range 256 {
		for _, s := range []string{one(c), "a" + one(c) + "b", one(c) + one(c), "/" + one(c), "%" + one(c) + "41", one(c) + "\xff"} {
			if got, want := percent.Path(s), written(s, letters+"/"); got != want {
				t.Errorf("Path(%q): %q, not %q", s, got, want)
			}
			if got, want := percent.Name(s), written(s, letters); got != want {
				t.Errorf("Name(%q): %q, not %q", s, got, want)
			}
		}
	}
	for s, want := range map[string]string{"": "", "/": "/", "//": "//", "/a/../b/.": "/a/../b/.", "ä": "%C3%A4", "%41": "%2541", "a+b": "a%2Bb", "a?b#c": "a%3Fb%23c", "\x00\n": "%00%0A", "~_-.": "~_-.", "A=z&0": "A%3Dz%260"} {
		if got := percent.Path(s); got != want {
			t.Errorf("Path(%q): %q", s, got)
		}
		if got := percent.Name(s); got != strings.ReplaceAll(want, "/", "%2F") {
			t.Errorf("Name(%q): %q", s, got)
		}
	}
	long := rep("a/ ", 50000)
	if percent.Path(long) != rep("a/%20", 50000) || percent.Name(long) != rep("a%2F%20", 50000) {
		t.Errorf("a long text")
	}
}

// Promise 18.1: each byte raw in a path.
func TestUnpathRaw(t *testing.T) {
	for c := range 256 {
		for _, s := range []string{one(c), "a" + one(c) + "b", one(c) + one(c), "/a/" + one(c), "%41" + one(c) + "%42"} {
			reads(t, s)
		}
		want := api.OK
		if c < 33 || c > 126 || strings.Contains("%#?", one(c)) {
			want = api.ErrForm
		}
		if s, e := percent.Unpath("x" + one(c) + "y"); e != want || e == api.OK && s != "x"+one(c)+"y" || e != api.OK && s != "" {
			t.Errorf("Unpath with %q: %q, %v", one(c), s, e)
		}
	}
}

// Promise 18.1: each escape, with great and small letters, and each two bytes behind a %.
func TestUnpathEscapes(t *testing.T) {
	small, great := "0123456789abcdef", "0123456789ABCDEF"
	for c := range 256 {
		for _, high := range []string{small, great} {
			for _, low := range []string{small, great} {
				text := "%" + high[c>>4:c>>4+1] + low[c&15:c&15+1]
				if s, e := percent.Unpath("a" + text + text + "1"); s != "a"+one(c)+one(c)+"1" || e != api.OK {
					t.Errorf("Unpath of %s: %q, %v", text, s, e)
				}
				if l, e := percent.Unquery(text + "=" + text); !slices.Equal(l, pairs(one(c), one(c))) || e != api.OK {
					t.Errorf("Unquery of %s: %q, %v", text, l, e)
				}
			}
		}
		for d := range 256 {
			text := "%" + one(c) + one(d)
			reads(t, text)
			reads(t, "a"+text+"0")
			asks(t, text)
			asks(t, "a="+text+"0")
		}
	}
}

// Promises 18.1 and 18.2: escapes that are cut, within a text and at its end.
func TestCutEscapes(t *testing.T) {
	for _, cut := range []string{"%", "%4", "%a", "%F", "%%", "%%41", "%4%41", "%%%", "%4=", "%=1", "%4&1", "%&41", "% 41", "%+1", "%4+", "%-1", "%0x41", "%u0041", "%4g", "%g4", "%G0", "%0G", "%/0", "%0:", "%@0", "%0`"} {
		for _, s := range []string{cut, "a" + cut, "%41" + cut, cut + "/", "a=" + cut, "b&a=" + cut, cut + "=b", cut + "&b"} {
			reads(t, s)
			asks(t, s)
			if x, e := percent.Unpath(s); x != "" || e != api.ErrForm {
				t.Errorf("Unpath(%q): %q, %v", s, x, e)
			}
			if l, e := percent.Unquery(s); len(l) != 0 || e != api.ErrForm {
				t.Errorf("Unquery(%q): %q, %v", s, l, e)
			}
		}
	}
	text := "%41%e4%F0%5a"
	for i := range len(text) + 1 {
		s, e := percent.Unpath(text[:i])
		if i%3 == 0 && (s != "A\xe4\xf0Z"[:i/3] || e != api.OK) || i%3 != 0 && (s != "" || e != api.ErrForm) {
			t.Errorf("Unpath(%q): %q, %v", text[:i], s, e)
		}
	}
}

// Promise 18.2: each byte raw in a query: in a name, at its front, in a value, at its end.
func TestUnqueryRaw(t *testing.T) {
	for c := range 256 {
		for _, s := range []string{one(c), "a" + one(c) + "b", "a" + one(c) + "b=1", one(c) + "b=1", "a=" + one(c), "a=1" + one(c), "a=" + one(c) + "1", "x&a" + one(c), "a" + one(c) + "&x", "x=1&y=" + one(c) + "&z"} {
			asks(t, s)
		}
		stands := c >= 33 && c <= 126 && !strings.Contains("%#&", one(c))
		value := one(c)
		if c == '+' {
			value = " "
		}
		l, e := percent.Unquery("n=x" + one(c) + "y")
		switch {
		case c == '&':
			if !slices.Equal(l, pairs("n", "x", "y", "")) || e != api.OK {
				t.Errorf("Unquery with &: %q, %v", l, e)
			}
		case stands:
			if !slices.Equal(l, pairs("n", "x"+value+"y")) || e != api.OK {
				t.Errorf("Unquery with %q in a value: %q, %v", one(c), l, e)
			}
		default:
			if len(l) != 0 || e != api.ErrForm {
				t.Errorf("Unquery with %q: %q, %v", one(c), l, e)
			}
		}
	}
}

// Promise 18.2: parts and what they say.
func TestUnquery(t *testing.T) {
	for _, c := range []struct {
		text string
		want []api.Pair
	}{
		{"", nil}, {"a", pairs("a", "")}, {"a=", pairs("a", "")}, {"a=b", pairs("a", "b")}, {"a==", pairs("a", "=")}, {"a==b=c", pairs("a", "=b=c")},
		{"a&b", pairs("a", "", "b", "")}, {"a=&b=", pairs("a", "", "b", "")}, {"a=1&a=2&a", pairs("a", "1", "a", "2", "a", "")},
		{"+", pairs(" ", "")}, {"+=+", pairs(" ", " ")}, {"a+b=c+d", pairs("a b", "c d")}, {"%2B=%2b", pairs("+", "+")}, {"a%20b=%20", pairs("a b", " ")},
		{"%3D=%3D", pairs("=", "=")}, {"%26=%26", pairs("&", "&")}, {"%3D", pairs("=", "")}, {"%00=%ff", pairs("\x00", "\xff")}, {"?=?", pairs("?", "?")}, {"/=/", pairs("/", "/")},
		{"uploads", pairs("uploads", "")}, {"prefix=a%2F&most=2", pairs("prefix", "a/", "most", "2")}, {"a;b=c", pairs("a;b", "c")}, {"\"<>\\^`{|}=[]", pairs("\"<>\\^`{|}", "[]")},
	} {
		asks(t, c.text)
		if l, e := percent.Unquery(c.text); !slices.Equal(l, c.want) || e != api.OK {
			t.Errorf("Unquery(%q): %q, %v, not %q", c.text, l, e, c.want)
		}
	}
	for _, s := range []string{"&", "&&", "=", "==", "=a", "=&a", "a&", "&a", "a&&b", "a&=", "a&=b", "a&=&b", "a=1&", "&a=1", "a b", "a=b c", " ", "a\n", "a=\x00", "a\x7f", "a=\x80", "ä", "a#b", "a=#", "#"} {
		asks(t, s)
		if l, e := percent.Unquery(s); len(l) != 0 || e != api.ErrForm {
			t.Errorf("Unquery(%q): %q, %v", s, l, e)
		}
	}
}

// Promise 18.2: as many pairs as may be, and more; which of two errors is told.
func TestMany(t *testing.T) {
	for n := range 40 {
		text, l := strings.TrimPrefix(rep("&a=b", n), "&"), slices.Repeat(pairs("a", "b"), n)
		want := api.OK
		if n > 16 {
			want = api.ErrMany
		}
		if got, e := percent.Unquery(text); e != want || e == api.OK && !slices.Equal(got, l) || e != api.OK && len(got) != 0 {
			t.Errorf("Unquery of %d: %d, %v", n, len(got), e)
		}
		if got, e := percent.Query(l); e != want || e == api.OK && got != text || e != api.OK && got != "" {
			t.Errorf("Query of %d: %q, %v", n, got, e)
		}
		// Something that may not be, at any place, comes behind too many.
		if want == api.OK {
			want = api.ErrForm
		}
		for at := range n {
			parts, nameless := strings.Split(text, "&"), slices.Clone(l)
			for _, wrong := range []string{"", "=", "=b", "%", "a b", "\x80"} {
				parts[at] = wrong
				if wrong == "" && n == 1 {
					continue // the empty text has no pairs
				}
				if got, e := percent.Unquery(strings.Join(parts, "&")); e != want || len(got) != 0 {
					t.Errorf("Unquery of %d with %q at %d: %q, %v", n, wrong, at, got, e)
				}
			}
			for _, value := range []string{"", "b"} {
				nameless[at] = api.Pair{Value: value}
				if got, e := percent.Query(nameless); e != want || got != "" {
					t.Errorf("Query of %d without the name of %d: %q, %v", n, at, got, e)
				}
			}
		}
	}
	for _, n := range []int{16, 17, 100, 100000} {
		if l, e := percent.Unquery(rep("&", n)); e != api.ErrMany || len(l) != 0 {
			t.Errorf("Unquery of %d times &: %v", n, e)
		}
	}
	if l, e := percent.Unquery(rep("&", 15)); e != api.ErrForm || len(l) != 0 {
		t.Errorf("Unquery of 15 times &: %v", e)
	}
}

// Promise 18.2: each byte in a pair's Name and Value; empty ones.
func TestQuery(t *testing.T) {
	for c := range 256 {
		writes(t, pairs(one(c), one(c)))
		writes(t, pairs("a"+one(c), "", "b", one(c)+"1", one(c)+one(c), "x"))
	}
	for _, l := range [][]api.Pair{nil, {}, pairs("a", ""), pairs("", ""), pairs("", "v"), pairs("a", "b", "", ""), pairs("", "", "a", "b"), pairs("a", "1", "a", "2", "a", "1"), pairs(" ", " ", "+", "+", "=", "=", "&", "&"), pairs(rep("n ", 5000), rep("v=", 5000))} {
		writes(t, l)
	}
	if s, e := percent.Query(nil); s != "" || e != api.OK {
		t.Errorf("Query of nothing: %q, %v", s, e)
	}
	if s, e := percent.Query(pairs("a", "", "b/c", "d+e f", "g", "=")); s != "a&b%2Fc=d%2Be%20f&g=%3D" || e != api.OK {
		t.Errorf("Query: %q, %v", s, e)
	}
}

// Promise 18.2: the first pair of a name, of several, of none.
func TestGet(t *testing.T) {
	l := pairs("a", "1", "b", "", "a", "2", "c c", "3", "", "4", "B", "5", "b", "6")
	for _, c := range []struct {
		name, want string
		is         bool
	}{{"a", "1", true}, {"b", "", true}, {"c c", "3", true}, {"", "4", true}, {"B", "5", true}, {"A", "", false}, {"c", "", false}, {"c+c", "", false}, {"a ", "", false}, {"\x00", "", false}} {
		if s, is := percent.Get(l, c.name); s != c.want || is != c.is {
			t.Errorf("Get(%q): %q, %v", c.name, s, is)
		}
		if s, is := percent.Get(nil, c.name); s != "" || is {
			t.Errorf("Get(%q) of nothing: %q, %v", c.name, s, is)
		}
	}
	if s, is := percent.Get(pairs("a", "1"), ""); s != "" || is {
		t.Errorf("Get of no name: %q, %v", s, is)
	}
	many := append(slices.Repeat(pairs("x", "y"), 40), pairs("last", "one")...)
	if s, is := percent.Get(many, "last"); s != "one" || !is {
		t.Errorf("Get of more pairs than a query has: %q, %v", s, is)
	}
}

// Promise 18.3: drawn bytes and pairs are written and read again; drawn texts are read as the library reads them.
func TestAny(t *testing.T) {
	r := rand.New(rand.NewSource(1))
	raw := []string{"a", "Z", "0", "-", "/", "=", "&", "+", "%", "%4", "%41", "%2f", "%2F", "%26", "%3d", "?", "#", " ", "~", "!", "\"", "\x7f", "\xff", "f", "4", "1"}
	fine, wrong := 0, 0
	for range 60000 {
		from := raw
		if r.Intn(2) == 0 {
			from = []string{"a", "b", "=", "&", "+", "%41", "%3D", "%26", "%2b", "x=1", "?", "/"}
		}
		text := drawn(r, 12, from...)
		reads(t, text)
		asks(t, text)
		if _, e := percent.Unquery(text); e == api.OK {
			fine++
		} else {
			wrong++
		}
		s := drawn(r, 12, raw...) + one(r.Intn(256))
		if percent.Path(s) != written(s, letters+"/") || percent.Name(s) != written(s, letters) {
			t.Errorf("Path, Name of %q: %q, %q", s, percent.Path(s), percent.Name(s))
		}
		if again, e := percent.Unpath(percent.Name(s)); again != s || e != api.OK {
			t.Errorf("Unpath of Name of %q: %q, %v", s, again, e)
		}
		reads(t, percent.Path(s))
		var l []api.Pair
		for range r.Intn(19) {
			l = append(l, api.Pair{Name: drawn(r, 3, raw...) + "n", Value: drawn(r, 3, raw...)})
		}
		if len(l) > 0 && r.Intn(9) == 0 {
			l[r.Intn(len(l))].Name = ""
		}
		writes(t, l)
		if t.Failed() {
			return
		}
	}
	if fine < 5000 || wrong < 5000 {
		t.Errorf("%d fine, %d wrong", fine, wrong)
	}
}

// Rule R3: what is handed in is not changed, and what is answered is of its own memory.
func TestSharesNothing(t *testing.T) {
	made := pairs("aa", "11", "b+", "2 ", "cc", "", "aa", "33")
	l := append(slices.Clone(made), pairs("behind", "7", "behind", "8")...)[:len(made)]
	plain, query := strings.Clone("/plain/path"), strings.Clone("aa=11&bb&cc=33")
	var all []span
	var answers []any // what was answered stays, so that its memory is not another one's later on
	take := func(what string, answer any, own ...span) {
		t.Helper()
		answers = append(answers, answer)
		all = append(all, own...)
		disjoint(t, what, all)
		behind := l[len(l) : len(l)+2]
		if !slices.Equal(l, made) || !slices.Equal(behind, pairs("behind", "7", "behind", "8")) || plain != "/plain/path" || query != "aa=11&bb&cc=33" {
			t.Errorf("%s: what was handed in is %q, and behind it %q; %q, %q", what, l, behind, plain, query)
		}
	}
	take("what is handed in", l, textSpan(plain), textSpan(query))
	for _, p := range l[:1] {
		take("what is handed in", p, textSpan(p.Value))
	}
	for range 3 {
		for what, call := range map[string]func(s string) string{"Path": percent.Path, "Name": percent.Name, "Unpath": func(s string) string { s, _ = percent.Unpath(s); return s }} {
			s := call(plain)
			take(what, s, textSpan(s))
		}
		s, _ := percent.Query(l)
		take("Query", s, textSpan(s))
		got, _ := percent.Unquery(query)
		take("Unquery", got, pairSpans(got)...)
		s, _ = percent.Get(l, "aa")
		take("Get", s, textSpan(s))
		one, _ := percent.Query(l[:1])
		take("Query of one", one, textSpan(one))
	}
	percent.Query(pairs("a", "b", "", ""))
	percent.Query(slices.Repeat(l, 9))
	take("refused", nil)
	runtime.KeepAlive(answers)
}

// Any bytes are written and read again, as a path and as a query.
func FuzzWrite(f *testing.F) {
	for _, s := range []string{"", "a b/c", "\x00\xff", "%41", "a=b&c+d", "ä?#"} {
		f.Add(s, s)
	}
	f.Fuzz(func(t *testing.T, name, value string) {
		if percent.Path(name) != written(name, letters+"/") || percent.Name(name) != written(name, letters) {
			t.Errorf("Path, Name of %q: %q, %q", name, percent.Path(name), percent.Name(name))
		}
		reads(t, percent.Path(name))
		writes(t, []api.Pair{{Name: name, Value: value}, {Name: value, Value: name}})
	})
}

// Any bytes are read as the library reads them, as a path and as a query.
func FuzzRead(f *testing.F) {
	for _, s := range []string{"", "a%20b/c", "a+b=%41&c&d=x=y", "%", "%4", "=a", "a&&b", rep("a&", 15) + "a", rep("a&", 16) + "a"} {
		f.Add(s)
	}
	f.Fuzz(func(t *testing.T, s string) {
		reads(t, s)
		asks(t, s)
	})
}
