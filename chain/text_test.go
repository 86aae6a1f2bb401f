package chain_test

import (
	"fmt"
	"math"
	"slices"
	"strings"
	"testing"

	"stowage/api"
	"stowage/chain"
)

// number is a number's bytes by the words of chapter 1.
func number(n uint64) string {
	s := ""
	for n >= 128 {
		s += string([]byte{byte(n%128) + 128})
		n /= 128
	}
	return s + string([]byte{byte(n)})
}

// text is a text's bytes.
func text(s string) string { return number(uint64(len(s))) + s }

// fields are the numbers and texts of a chain's text, one by one; what a version has is told as it stands, whether it may be or not.
func fields(l []api.Version) []string {
	all := []string{number(uint64(len(l)))}
	for _, v := range l {
		all = append(all, number(uint64(v.ID)))
		if v.Mark {
			all = append(all, number(1))
			continue
		}
		all = append(all, number(0), number(uint64(len(v.Pieces))))
		for _, p := range v.Pieces {
			all = append(all, text(p.ID), number(uint64(p.Size)))
		}
		all = append(all, text(v.Sum))
	}
	return all
}

// textOf is the text that the chapter says.
func textOf(l []api.Version) string { return strings.Join(fields(l), "") }

// noText asks that a text is refused.
func noText(t *testing.T, what, s string) {
	t.Helper()
	l, e := chain.Decode(s)
	noChain(t, fmt.Sprintf("Decode of %s (%.300q)", what, s), l, e, api.ErrForm)
}

// Promise 13.2: texts, and back again.
func TestText(t *testing.T) {
	for _, c := range chains() {
		s, e := chain.Encode(c)
		if s != textOf(c) || e != api.OK {
			t.Errorf("Encode of %s: %.200q, %v", short(c), s, e)
		}
		l, e := chain.Decode(s)
		isChain(t, "Decode of "+short(c), l, e, c...)
	}
	for c, want := range map[string][]api.Version{
		"\x00":         nil,
		"\x01\x05\x01": {mark(5)},
		"\x02\xac\x02\x01\x05\x00\x00\x40" + digits(5):                                                 {mark(300), object(5)},
		"\x01\x03\x00\x02\x40" + digits(4096) + "\x80\x20\x40" + digits(1001) + "\x01\x40" + digits(3): {object(3, 4096, 1)},
		"\x02\x80\x80\x80\x80\x80\x20\x01\x01\x01":                                                     {mark(api.MaxTerm), mark(1)},
	} {
		if s, e := chain.Encode(want); s != c || e != api.OK {
			t.Errorf("Encode of %s: %q, %v", short(want), s, e)
		}
	}
}

// Promise 13.2: a text that is cut anywhere, or has more behind it, is none.
func TestTextCut(t *testing.T) {
	for _, c := range chains() {
		s := textOf(c)
		step := 1 + len(s)/2000
		for i := 0; i < len(s); i += step {
			noText(t, "a text that is cut", s[:i])
		}
		noText(t, "a text without its last byte", s[:len(s)-1])
		for _, behind := range []string{"\x00", "\x01", "x", "\xff", s} {
			noText(t, "a text with more behind it", s+behind)
		}
		if len(c) > 0 {
			noText(t, "a text with more ahead of it", "\x00"+s)
		}
	}
}

// Promise 13.2: a text of a list that is no chain, or of a version that may not be. (A Size that is not the pieces' is not told, and nothing of what a marker may not have is.)
func TestTextOfNone(t *testing.T) {
	n := 0
	for _, c := range badChains() {
		s := textOf(c)
		told := slices.Clone(c)
		for i, v := range c {
			if v.Mark {
				told[i] = mark(v.ID)
			} else if size, e := chain.Pieces(v.Pieces); e == api.OK {
				told[i].Size = size
			}
		}
		if want, e := chain.Encode(told); e == api.OK {
			if l, e := chain.Decode(s); want != s || e != api.OK || !slices.EqualFunc(l, told, equal) {
				t.Errorf("Decode of what is a text, of %s: %v", short(told), e)
			}
			continue
		}
		n++
		noText(t, "the text of "+short(c), s)
	}
	if n < 200 {
		t.Errorf("%d texts of no chains", n)
	}
}

// bound is a field of a text, and what may not stand there.
type bound struct {
	what string
	at   int
	bad  []string
}

// Promise 13.2: each number and each text beyond its bounds.
func TestTextBounds(t *testing.T) {
	c := []api.Version{mark(9), object(7, 5, 6), mark(3)}
	all := fields(c)
	huge := []string{number(1<<41 + 1), number(math.MaxInt64), number(1 << 63), number(1<<63 + 1), number(math.MaxUint64), "\xff\xff\xff\xff\xff\xff\xff\xff\xff\x02", "\xff\xff\xff\xff\xff\xff\xff\xff\xff\xff\x01"}
	var noDigits []string
	for _, s := range notDigits() {
		noDigits = append(noDigits, text(s))
	}
	for _, b := range []bound{
		{"how many", 0, []string{number(0), number(2), number(4), number(32), number(33)}},
		{"an ID", 1, []string{number(0), number(7), number(3), number(api.MaxTerm + 1)}},
		{"Mark", 2, []string{number(0), number(2), number(3), number(128)}},
		{"the middle ID", 3, []string{number(0), number(9), number(10), number(3), number(2), number(api.MaxTerm + 1)}},
		{"no Mark", 4, []string{number(1), number(2)}},
		{"how many pieces", 5, []string{number(0), number(1), number(3), number(512), number(513)}},
		{"an id", 6, noDigits},
		{"a Size", 7, []string{number(0), number(4097), number(8192)}},
		{"the last id", 8, noDigits},
		{"the last Size", 9, []string{number(0), number(4097), number(8192)}},
		{"Sum", 10, noDigits},
		{"the last ID", 11, []string{number(0), number(7), number(8), number(9), number(api.MaxTerm + 1)}},
		{"the last Mark", 12, []string{number(0), number(2)}},
	} {
		bad := append(slices.Clone(b.bad), huge...)
		bad = append(bad, longer(all[b.at]), "")
		for _, s := range bad {
			changed := slices.Clone(all)
			changed[b.at] = s
			noText(t, fmt.Sprintf("%s as %q", b.what, s), strings.Join(changed, ""))
		}
	}
	if len(all) != 13 {
		t.Errorf("%d fields", len(all))
	}
}

// longer is a number, or a text, whose number has one byte more than it may.
func longer(s string) string {
	return string([]byte{s[0] | 128}) + "\x00" + s[1:]
}

// Promise 13.2: as many versions, pieces and bytes as may be, and one more.
func TestTextMost(t *testing.T) {
	var full []api.Version
	for id := 32; id > 0; id-- {
		full = append(full, of(id, many(512, 2048)))
	}
	s, e := chain.Encode(full)
	if s != textOf(full) || e != api.OK {
		t.Fatalf("Encode of a full chain: %d bytes, %v", len(s), e)
	}
	l, e := chain.Decode(s)
	isChain(t, "Decode of a full chain", l, e, full...)
	if ids := chain.Ids(full); len(ids) != 32*512 {
		t.Errorf("Ids of a full chain: %d", len(ids))
	}
	noText(t, "33 versions", textOf(append([]api.Version{mark(33)}, full...)))
	noText(t, "513 pieces", textOf([]api.Version{of(3, many(513, 1))}))
	noText(t, "more than an object", textOf([]api.Version{of(3, append(many(256, 4096), pieces(1)...))}))
	noText(t, "more than an object, in all pieces", textOf([]api.Version{of(3, append(many(511, 2048), pieces(2049)...))}))
	noText(t, "many versions and nothing", number(1<<40))
	noText(t, "nothing", "")
}

// Promise 13.2: a text has one form: with any byte changed it is that of another chain, or of none.
func TestOneText(t *testing.T) {
	for _, c := range [][]api.Version{nil, {mark(300)}, {object(5, 4096, 200), mark(4), object(2)}, {mark(api.MaxTerm), object(1, 1)}} {
		s := textOf(c)
		for i := range len(s) {
			for x := range 256 {
				changed := s[:i] + string([]byte{byte(x)}) + s[i+1:]
				oneForm(t, changed)
			}
			oneForm(t, s[:i]+s[i+1:])
			oneForm(t, s[:i]+"\x00"+s[i:])
			oneForm(t, s[:i]+"\x01"+s[i:])
		}
	}
}

// oneForm asks that a text is refused, or is just what Encode tells of what it says.
func oneForm(t *testing.T, s string) {
	t.Helper()
	l, e := chain.Decode(s)
	if e != api.OK {
		noChain(t, "Decode", l, e, api.ErrForm)
		return
	}
	if again, e := chain.Encode(l); again != s || e != api.OK {
		t.Errorf("Decode of %q: %s", s, short(l))
	}
}

// Promise 13.2: all texts of few bytes.
func TestShortTexts(t *testing.T) {
	taken := 0
	for a := range 256 {
		oneForm(t, string([]byte{byte(a)}))
		for b := range 256 {
			oneForm(t, string([]byte{byte(a), byte(b)}))
			for _, c := range []byte{0, 1, 2, 64, 127, 128, 255} {
				s := string([]byte{byte(a), byte(b), c})
				oneForm(t, s)
				if l, e := chain.Decode(s); e == api.OK {
					taken++
					isChain(t, "a short text", l, e, mark(b))
				}
			}
		}
	}
	if taken != 127 { // one marker, with an ID of one byte that is not 0
		t.Errorf("%d short texts were taken", taken)
	}
}

// Any bytes are a chain, in its one form, or none.
func FuzzDecode(f *testing.F) {
	for _, c := range [][]api.Version{nil, {mark(300)}, {object(5, 4096, 200), mark(4), object(2)}, marks(33, 1)} {
		f.Add(textOf(c))
	}
	f.Add("\x81\x00\x00")
	f.Fuzz(func(t *testing.T, s string) { oneForm(t, s) })
}
