package parts_test

import (
	"fmt"
	"math"
	"runtime"
	"slices"
	"strings"
	"testing"

	"stowage/api"
	"stowage/chain"
	"stowage/parts"
)

// number is a number's bytes by the words of chapter 1.
func number(n uint64) string {
	s := ""
	for n >= 128 {
		s += string([]byte{byte(n%128) + 128})
		n /= 128
	}
	return s + string([]byte{byte(n)})
}

// text is a text's bytes.
func text(s string) string { return number(uint64(len(s))) + s }

// fields are the numbers and texts of parts' text, one by one; what a part has is told as it stands, whether it may be or not.
func fields(l []api.Part) []string {
	all := []string{number(uint64(len(l)))}
	for _, p := range l {
		all = append(all, number(uint64(p.N)), number(uint64(len(p.Pieces))))
		for _, x := range p.Pieces {
			all = append(all, text(x.ID), number(uint64(x.Size)))
		}
		all = append(all, text(p.Sum))
	}
	return all
}

// textOf is the text that the chapter says.
func textOf(l []api.Part) string { return strings.Join(fields(l), "") }

// noText asks that a text is refused.
func noText(t *testing.T, what, s string) {
	t.Helper()
	l, e := parts.Decode(s)
	noParts(t, fmt.Sprintf("Decode of %s (%.300q)", what, s), l, e, api.ErrForm)
}

// Promise 14.3: texts, and back again.
func TestText(t *testing.T) {
	for _, c := range lists() {
		s, e := parts.Encode(c)
		if s != textOf(c) || e != api.OK {
			t.Errorf("Encode of %s: %.200q, %v", short(c), s, e)
		}
		l, e := parts.Decode(s)
		areParts(t, "Decode of "+short(c), l, e, c...)
	}
	for _, c := range []struct {
		l    []api.Part
		want string
	}{
		{nil, "\x00"},
		{[]api.Part{part(100)}, "\x01\x64\x00\x40" + digits(100)},
		{[]api.Part{part(3, 4096, 1)}, "\x01\x03\x02\x40" + digits(4096) + "\x80\x20\x40" + digits(1001) + "\x01\x40" + digits(3)},
		{[]api.Part{part(1), part(2, 200)}, "\x02\x01\x00\x40" + digits(1) + "\x02\x01\x40" + digits(200) + "\xc8\x01\x40" + digits(2)},
	} {
		if s, e := parts.Encode(c.l); s != c.want || e != api.OK {
			t.Errorf("Encode of %s: %q, %v", short(c.l), s, e)
		}
	}
}

// Promise 14.3: a text that is cut anywhere, or has more behind it, is none.
func TestTextCut(t *testing.T) {
	for _, c := range lists() {
		s := textOf(c)
		step := 1 + len(s)/2000
		for i := 0; i < len(s); i += step {
			noText(t, "a text that is cut", s[:i])
		}
		noText(t, "a text without its last byte", s[:len(s)-1])
		for _, behind := range []string{"\x00", "\x01", "x", "\xff", s} {
			noText(t, "a text with more behind it", s+behind)
		}
		if len(c) > 0 {
			noText(t, "a text with more ahead of it", "\x00"+s)
		}
	}
}

// Promise 14.3: a text of a list that is no parts. (A Size that is not the pieces' is not told.)
func TestTextOfNone(t *testing.T) {
	n := 0
	for _, c := range badLists() {
		s := textOf(c)
		told := slices.Clone(c)
		for i, p := range c {
			if size, e := chain.Pieces(p.Pieces); e == api.OK {
				told[i].Size = size
			}
		}
		if want, e := parts.Encode(told); e == api.OK {
			if l, e := parts.Decode(s); want != s || e != api.OK || !slices.EqualFunc(l, told, equal) {
				t.Errorf("Decode of what is a text, of %s: %v", short(told), e)
			}
			continue
		}
		n++
		noText(t, "the text of "+short(c), s)
	}
	if n < 200 {
		t.Errorf("%d texts of no parts", n)
	}
}

// bound is a field of a text, and what may not stand there.
type bound struct {
	what string
	at   int
	bad  []string
}

// Promise 14.3: each number and each text beyond its bounds.
func TestTextBounds(t *testing.T) {
	c := []api.Part{part(3), part(7, 5, 6), part(9, 1)}
	all := fields(c)
	huge := []string{number(1 << 31), number(1 << 32), number(1<<32 + 1), number(math.MaxInt64), number(1 << 63), number(1<<63 + 1), number(math.MaxUint64), "\xff\xff\xff\xff\xff\xff\xff\xff\xff\x02", "\xff\xff\xff\xff\xff\xff\xff\xff\xff\xff\x01"}
	var noDigits []string
	for _, s := range notDigits() {
		noDigits = append(noDigits, text(s))
	}
	for _, b := range []bound{
		{"how many", 0, []string{number(0), number(2), number(4), number(100), number(101)}},
		{"the first N", 1, []string{number(0), number(7), number(8), number(100), number(101)}},
		{"no pieces", 2, []string{number(1), number(512), number(513)}},
		{"the first Sum", 3, noDigits},
		{"the middle N", 4, []string{number(0), number(2), number(3), number(9), number(10), number(101)}},
		{"how many pieces", 5, []string{number(0), number(1), number(3), number(512), number(513)}},
		{"an id", 6, noDigits},
		{"a Size", 7, []string{number(0), number(4097), number(8192)}},
		{"the next id", 8, noDigits},
		{"the next Size", 9, []string{number(0), number(4097), number(8192)}},
		{"the middle Sum", 10, noDigits},
		{"the last N", 11, []string{number(0), number(3), number(7), number(101), number(128)}},
		{"one piece", 12, []string{number(0), number(2), number(513)}},
		{"the last Sum", 15, noDigits},
	} {
		bad := append(slices.Clone(b.bad), huge...)
		bad = append(bad, longer(all[b.at]), "")
		for _, s := range bad {
			changed := slices.Clone(all)
			changed[b.at] = s
			noText(t, fmt.Sprintf("%s as %q", b.what, s), strings.Join(changed, ""))
		}
	}
	if len(all) != 16 {
		t.Errorf("%d fields", len(all))
	}
}

// longer is a number, or a text, whose number has one byte more than it may.
func longer(s string) string {
	return string([]byte{s[0] | 128}) + "\x00" + s[1:]
}

// Promise 14.3: as many parts and pieces as may be, and one more.
func TestTextMost(t *testing.T) {
	var full []api.Part
	for n := 1; n <= 100; n++ {
		full = append(full, of(n, many(512, 4096)))
	}
	s, e := parts.Encode(full)
	if s != textOf(full) || e != api.OK {
		t.Fatalf("Encode of all that may be: %d bytes, %v", len(s), e)
	}
	l, e := parts.Decode(s)
	areParts(t, "Decode of all that may be", l, e, full...)
	if ids := parts.Ids(full); len(ids) != 51200 {
		t.Errorf("Ids of all that may be: %d", len(ids))
	}
	noText(t, "101 parts", textOf(append(all100(), part(101))))
	noText(t, "513 pieces", textOf([]api.Part{of(3, many(513, 1))}))
	noText(t, "many parts and nothing", number(1<<40))
	noText(t, "nothing", "")
}

// Promise 14.3: a text has one form: with any byte changed it is that of other parts, or of none.
func TestOneText(t *testing.T) {
	for _, c := range [][]api.Part{nil, {part(100)}, {part(1, 4096, 200), part(4), part(90, 1)}} {
		s := textOf(c)
		for i := range len(s) {
			for x := range 256 {
				changed := s[:i] + string([]byte{byte(x)}) + s[i+1:]
				oneForm(t, changed)
			}
			oneForm(t, s[:i]+s[i+1:])
			oneForm(t, s[:i]+"\x00"+s[i:])
			oneForm(t, s[:i]+"\x01"+s[i:])
		}
	}
	for a := range 256 {
		for b := range 256 {
			s := string([]byte{byte(a), byte(b)})
			noText(t, "two bytes", s)
			noText(t, "three bytes", s+"\x00")
		}
	}
}

// oneForm asks that a text is refused, or is just what Encode tells of what it says.
func oneForm(t *testing.T, s string) {
	t.Helper()
	l, e := parts.Decode(s)
	if e != api.OK {
		noParts(t, "Decode", l, e, api.ErrForm)
		return
	}
	if again, e := parts.Encode(l); again != s || e != api.OK {
		t.Errorf("Decode of %q: %s", s, short(l))
	}
}

// Any bytes are parts, in their one form, or none.
func FuzzDecode(f *testing.F) {
	for _, c := range [][]api.Part{nil, {part(100)}, {part(1, 4096, 200), part(4), part(90, 1)}, {part(2), part(1)}} {
		f.Add(textOf(c))
	}
	f.Add("\x81\x00\x00")
	f.Fuzz(func(t *testing.T, s string) { oneForm(t, s) })
}

// roomy is a list with others behind its end, which no call may touch.
func roomy(l []api.Part) []api.Part {
	room := append(slices.Clone(l), part(77), part(76), part(75))
	for i, p := range room {
		room[i].Pieces = append(slices.Clone(p.Pieces), api.Piece{ID: "behind", Size: 7}, api.Piece{ID: "behind", Size: 6})[:len(p.Pieces)]
	}
	return room[:len(l)]
}

// untouched asks that a list is as it was made, also behind its end.
func untouched(t *testing.T, what string, l, made []api.Part) {
	t.Helper()
	behind := l[len(l) : len(l)+3]
	if !slices.EqualFunc(l, made, equal) || !slices.EqualFunc(behind, []api.Part{part(77), part(76), part(75)}, equal) {
		t.Errorf("%s: what was handed in is %s, and behind it %s", what, short(l), short(behind))
	}
	for _, p := range l {
		if rest := p.Pieces[len(p.Pieces) : len(p.Pieces)+2]; rest[0] != (api.Piece{ID: "behind", Size: 7}) || rest[1] != (api.Piece{ID: "behind", Size: 6}) {
			t.Errorf("%s: behind the pieces of %d stands %v", what, p.N, rest)
		}
	}
}

// Rule R3: what is handed in is not changed, and what is answered is of its own memory, list by list and text by text.
func TestSharesNothing(t *testing.T) {
	made := []api.Part{part(2, 64, 6), part(4, 70), part(6, 64, 1, 2), part(8, 3)}
	l, picks := roomy(made), picksOf(made...)
	before := slices.Clone(picks)
	var all []span
	var held []any // what was answered stays, so that its memory is not another one's later on
	take := func(what string, answer any, own ...span) {
		t.Helper()
		held = append(held, answer)
		all = append(all, own...)
		disjoint(t, what, all)
		untouched(t, what, l, made)
	}
	take("what is handed in", l, spans(l)...)
	for range 2 {
		for n := 1; n < 10; n++ {
			p := roomy([]api.Part{part(n, 9, 9)})
			take("what is handed in", p, spans(p)...)
			got, _ := parts.Put(l, p[0])
			take(fmt.Sprintf("Put of %d", n), got, spans(got)...)
			untouched(t, "Put", p, []api.Part{part(n, 9, 9)})
		}
		for i := range picks {
			v, _ := parts.Join(l, picks[:i+1])
			take("Join", v, append(pieceSpans(v.Pieces), textSpan(v.Sum))...)
		}
		ids := parts.Ids(l)
		take("Ids", ids, listSpan(ids))
		for _, id := range ids {
			take("Ids", id, textSpan(id))
		}
		s, _ := parts.Encode(l)
		take("Encode", s, textSpan(s))
		got, _ := parts.Decode(s)
		take("Decode", got, spans(got)...)
	}
	if len(all) < 200 || !slices.Equal(picks, before) {
		t.Errorf("%d stretches of memory; the picks %v", len(all), picks)
	}
	parts.Check(l[0])
	untouched(t, "Check", l, made)
	runtime.KeepAlive(held)
}

// Rule R3: calls that are refused change nothing, either.
func TestRefusedChangesNothing(t *testing.T) {
	made := []api.Part{part(2, 63), of(4, many(512, 4096)), part(6, 1)}
	l := roomy(made)
	parts.Put(l, part(101))
	parts.Join(l, nil)
	parts.Join(l, picksOf(l[1], l[0]))
	parts.Join(l, picksOf(l[0], part(5)))
	parts.Join(l, picksOf(l...))
	parts.Join(l, picksOf(l[1:]...))
	untouched(t, "parts", l, made)
	made = []api.Part{part(4, 5), part(2, 5), part(6)}
	l = roomy(made)
	parts.Put(l, part(3))
	parts.Join(l, picksOf(l[1]))
	parts.Ids(l)
	parts.Encode(l)
	untouched(t, "no parts", l, made)
}
