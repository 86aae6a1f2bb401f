package octet_test

import (
	"math"
	"slices"
	"strings"
	"testing"
	"unsafe"

	"stowage/api"
	"stowage/octet"
)

// numbers are numbers and their one form: both sides of each size's edge, and what the document names.
func numbers() map[uint64]string {
	m := map[uint64]string{
		0:                  "\x00",
		1:                  "\x01",
		300:                "\xac\x02",
		math.MaxUint64:     strings.Repeat("\xff", 9) + "\x01",
		math.MaxUint64 - 1: "\xfe" + strings.Repeat("\xff", 8) + "\x01",
	}
	for n := 1; n <= 9; n++ {
		m[1<<(7*n)-1] = strings.Repeat("\xff", n-1) + "\x7f"
		m[1<<(7*n)] = strings.Repeat("\x80", n) + "\x01"
	}
	return m
}

// places are texts that may stand ahead of and behind what is read.
var places = []struct{ ahead, behind string }{
	{"", ""}, {"x", ""}, {"", "y"}, {"\x80\x80", "\x00"}, {"\xff", "\xff\xff"}, {"\x00\x00\x00", "\x80"},
}

// Promise 1.1.
func TestNumber(t *testing.T) {
	for n, want := range numbers() {
		if got := octet.Number(n); got != want {
			t.Errorf("Number(%d): %q, not %q", n, got, want)
		}
	}
}

// Promise 1.1.
func TestText(t *testing.T) {
	long := strings.Repeat("z", 128)
	for s, want := range map[string]string{
		"": "\x00", "ab": "\x02ab", "\x00\xff": "\x02\x00\xff", long[:127]: "\x7f" + long[:127], long: "\x80\x01" + long,
	} {
		if got := octet.Text(s); got != want {
			t.Errorf("Text(%q): %q", s, got)
		}
	}
}

// Promise 1.1.
func TestList(t *testing.T) {
	if octet.List(nil) != "\x00" || octet.List([]string{}) != "\x00" {
		t.Errorf("List without texts: %q, %q", octet.List(nil), octet.List([]string{}))
	}
	l := []string{"a", "", "\x80b"}
	if got := octet.List(l); got != "\x03\x01a\x00\x02\x80b" {
		t.Errorf("List: %q", got)
	}
	if !slices.Equal(l, []string{"a", "", "\x80b"}) {
		t.Errorf("List changed what came in: %q", l)
	}
	if got := octet.List(make([]string, 128)); got != "\x80\x01"+strings.Repeat("\x00", 128) {
		t.Errorf("List of 128: %q", got)
	}
}

// Promise 1.1.
func TestWide(t *testing.T) {
	for _, c := range []struct {
		n    uint64
		wide int
		want string
	}{
		{0, 1, "\x00"}, {255, 1, "\xff"}, {258, 2, "\x01\x02"}, {1, 4, "\x00\x00\x00\x01"}, {0, 8, strings.Repeat("\x00", 8)},
		{0x0102030405060708, 8, "\x01\x02\x03\x04\x05\x06\x07\x08"}, {math.MaxUint64, 8, strings.Repeat("\xff", 8)},
	} {
		if got, e := octet.Wide(c.n, c.wide); got != c.want || e != api.OK {
			t.Errorf("Wide(%d, %d): %q, %v", c.n, c.wide, got, e)
		}
	}
	for wide := 1; wide <= 7; wide++ {
		if got, e := octet.Wide(1<<(8*wide)-1, wide); got != strings.Repeat("\xff", wide) || e != api.OK {
			t.Errorf("the greatest number of %d bytes: %q, %v", wide, got, e)
		}
		if got, e := octet.Wide(1<<(8*wide), wide); got != "" || e != api.ErrArg {
			t.Errorf("a number too great for %d bytes: %q, %v", wide, got, e)
		}
	}
	for _, wide := range []int{0, -1, 9, 64, math.MinInt, math.MaxInt} {
		if got, e := octet.Wide(0, wide); got != "" || e != api.ErrArg {
			t.Errorf("Wide(0, %d): %q, %v", wide, got, e)
		}
	}
}

// Promises 1.2 and 1.4: what was put is taken again, wherever it stands.
func TestReadNumber(t *testing.T) {
	for n, form := range numbers() {
		for _, p := range places {
			got, at, e := octet.ReadNumber(p.ahead+form+p.behind, len(p.ahead))
			if got != n || at != len(p.ahead+form) || e != api.OK {
				t.Errorf("ReadNumber of %d in %q: %d, %d, %v", n, p, got, at, e)
			}
		}
	}
}

// Promise 1.2: the error is that of the first byte that tells it.
func TestReadNumberWrong(t *testing.T) {
	full := strings.Repeat("\xff", 9)
	for _, c := range []struct {
		s    string
		want api.Errno
	}{
		{"", api.ErrEnd}, {"\x80", api.ErrEnd}, {"\xff\xff", api.ErrEnd}, {full, api.ErrEnd},
		{"\x80\x00", api.ErrForm}, {"\xff\x80\x00", api.ErrForm}, {"\x80\x00\x01", api.ErrForm},
		{full + "\x00", api.ErrForm}, {full + "\x02", api.ErrForm}, {full + "\x7f", api.ErrForm},
		{full + "\x80", api.ErrForm}, {full + "\x81", api.ErrForm}, {full + "\x81\x00", api.ErrForm}, {full + "\xff\x01", api.ErrForm},
	} {
		for _, ahead := range []string{"", "\x00", "\x80x"} {
			n, at, e := octet.ReadNumber(ahead+c.s, len(ahead))
			if n != 0 || at != 0 || e != c.want {
				t.Errorf("ReadNumber(%q, %d): %d, %d, %v", ahead+c.s, len(ahead), n, at, e)
			}
		}
	}
}

// Promise 1.2: a place outside the text is told ahead of all else.
func TestPlaces(t *testing.T) {
	for _, s := range []string{"", "\x00", "\x01a"} {
		for _, at := range []int{-1, len(s) + 1, math.MinInt, math.MaxInt} {
			if n, to, e := octet.ReadNumber(s, at); n != 0 || to != 0 || e != api.ErrArg {
				t.Errorf("ReadNumber(%q, %d): %d, %d, %v", s, at, n, to, e)
			}
			if x, to, e := octet.ReadText(s, at); x != "" || to != 0 || e != api.ErrArg {
				t.Errorf("ReadText(%q, %d): %q, %d, %v", s, at, x, to, e)
			}
			if l, to, e := octet.ReadList(s, at); len(l) != 0 || to != 0 || e != api.ErrArg {
				t.Errorf("ReadList(%q, %d): %q, %d, %v", s, at, l, to, e)
			}
			if n, to, e := octet.ReadWide(s, at, 1); n != 0 || to != 0 || e != api.ErrArg {
				t.Errorf("ReadWide(%q, %d): %d, %d, %v", s, at, n, to, e)
			}
		}
		if _, _, e := octet.ReadNumber(s, len(s)); e != api.ErrEnd {
			t.Errorf("ReadNumber at the end of %q: %v", s, e)
		}
		if _, _, e := octet.ReadText(s, len(s)); e != api.ErrEnd {
			t.Errorf("ReadText at the end of %q: %v", s, e)
		}
		if _, _, e := octet.ReadList(s, len(s)); e != api.ErrEnd {
			t.Errorf("ReadList at the end of %q: %v", s, e)
		}
		if _, _, e := octet.ReadWide(s, len(s), 1); e != api.ErrEnd {
			t.Errorf("ReadWide at the end of %q: %v", s, e)
		}
	}
}

// Promises 1.2 and 1.4.
func TestReadText(t *testing.T) {
	for _, s := range []string{"", "a", "\x00\x80", strings.Repeat("m", 127), strings.Repeat("n", 128), strings.Repeat("o", 20000)} {
		form := octet.Text(s)
		for _, p := range places {
			got, at, e := octet.ReadText(p.ahead+form+p.behind, len(p.ahead))
			if got != s || at != len(p.ahead+form) || e != api.OK {
				t.Errorf("ReadText of %d bytes in %q: %d bytes, %d, %v", len(s), p, len(got), at, e)
			}
		}
		for cut := range len(form) {
			if got, at, e := octet.ReadText("x"+form[:cut], 1); got != "" || at != 0 || e != api.ErrEnd {
				t.Fatalf("ReadText, %d of %d bytes: %d bytes, %d, %v", cut, len(form), len(got), at, e)
			}
		}
	}
}

// Promise 1.2: a size may be any number, also one that is no int.
func TestReadTextWrong(t *testing.T) {
	for s, want := range map[string]api.Errno{
		"\x80\x00":                            api.ErrForm,
		"\x05a":                               api.ErrEnd,
		octet.Number(math.MaxInt64) + "a":     api.ErrEnd,
		octet.Number(math.MaxInt64+1) + "a":   api.ErrEnd,
		octet.Number(math.MaxUint64) + "abcd": api.ErrEnd,
		strings.Repeat("\xff", 9) + "\x02abc": api.ErrForm,
	} {
		if got, at, e := octet.ReadText(s, 0); got != "" || at != 0 || e != want {
			t.Errorf("ReadText(%q): %q, %d, %v", s, got, at, e)
		}
	}
}

// Promises 1.2 and 1.4.
func TestReadList(t *testing.T) {
	for _, l := range [][]string{nil, {""}, {"a", ""}, {"", "", "\x80"}, make([]string, 300), {strings.Repeat("q", 200), "r"}} {
		form := octet.List(l)
		for _, p := range places {
			got, at, e := octet.ReadList(p.ahead+form+p.behind, len(p.ahead))
			if !slices.Equal(got, l) || at != len(p.ahead+form) || e != api.OK {
				t.Errorf("ReadList of %q in %q: %q, %d, %v", l, p, got, at, e)
			}
		}
		for cut := range len(form) {
			if got, at, e := octet.ReadList("x"+form[:cut], 1); len(got) != 0 || at != 0 || e != api.ErrEnd {
				t.Errorf("ReadList, %d bytes of %q: %q, %d, %v", cut, form, got, at, e)
			}
		}
	}
}

// Promise 1.2: the texts' errors come text by text, however many there should be.
func TestReadListWrong(t *testing.T) {
	for s, want := range map[string]api.Errno{
		"\x80\x00":                   api.ErrForm,
		"\x02\x01a":                  api.ErrEnd,
		"\x02\x01a\x05b":             api.ErrEnd,
		"\x02\x01a\x80\x00":          api.ErrForm,
		"\x09\x80\x00":               api.ErrForm,
		"\x02\x09a\x80\x00":          api.ErrEnd,
		octet.Number(math.MaxUint64): api.ErrEnd,
		octet.Number(math.MaxUint64) + "\x00\x00":     api.ErrEnd,
		octet.Number(math.MaxUint64) + "\x00\x80\x00": api.ErrForm,
	} {
		if got, at, e := octet.ReadList(s, 0); len(got) != 0 || at != 0 || e != want {
			t.Errorf("ReadList(%q): %q, %d, %v", s, got, at, e)
		}
	}
}

// Promises 1.2 and 1.4.
func TestReadWide(t *testing.T) {
	for wide := 1; wide <= 8; wide++ {
		for _, n := range []uint64{0, 1, 0x80, 0x0102030405060708 >> (64 - 8*wide), math.MaxUint64 >> (64 - 8*wide)} {
			form, _ := octet.Wide(n, wide)
			for _, p := range places {
				got, at, e := octet.ReadWide(p.ahead+form+p.behind, len(p.ahead), wide)
				if got != n || at != len(p.ahead)+wide || e != api.OK {
					t.Errorf("ReadWide of %d in %q: %d, %d, %v", n, p, got, at, e)
				}
			}
			for cut := range wide {
				if got, at, e := octet.ReadWide("x"+form[:cut], 1, wide); got != 0 || at != 0 || e != api.ErrEnd {
					t.Errorf("ReadWide, %d of %d bytes: %d, %d, %v", cut, wide, got, at, e)
				}
			}
		}
	}
	for _, wide := range []int{0, -1, 9, math.MinInt, math.MaxInt} {
		if got, at, e := octet.ReadWide("123456789", 0, wide); got != 0 || at != 0 || e != api.ErrArg {
			t.Errorf("ReadWide of %d bytes: %d, %d, %v", wide, got, at, e)
		}
		if _, _, e := octet.ReadWide("", 0, wide); e != api.ErrArg {
			t.Errorf("ReadWide of %d bytes where none stand: %v", wide, e)
		}
	}
}

// Promise 1.4: what is taken is just what is put, at all texts of few bytes.
func TestOneForm(t *testing.T) {
	alphabet := []byte{0, 1, 2, 3, 127, 128, 129, 255}
	texts := []string{""}
	for i := 0; i < len(texts); i++ {
		s := texts[i]
		if len(s) < 5 {
			for _, c := range alphabet {
				texts = append(texts, s+string([]byte{c}))
			}
		}
		if n, at, e := octet.ReadNumber(s, 0); e == api.OK && octet.Number(n) != s[:at] {
			t.Errorf("ReadNumber(%q): %d, %d", s, n, at)
		}
		if x, at, e := octet.ReadText(s, 0); e == api.OK && octet.Text(x) != s[:at] {
			t.Errorf("ReadText(%q): %q, %d", s, x, at)
		}
		if l, at, e := octet.ReadList(s, 0); e == api.OK && octet.List(l) != s[:at] {
			t.Errorf("ReadList(%q): %q, %d", s, l, at)
		}
		if n, at, e := octet.ReadWide(s, 0, 2); e == api.OK {
			if w, _ := octet.Wide(n, 2); w != s[:at] {
				t.Errorf("ReadWide(%q): %d, %d", s, n, at)
			}
		}
	}
}

// Rule R3: an answer is memory of its own.
func TestAnswersShareNothing(t *testing.T) {
	s := octet.List([]string{"ab", "cd"})
	one, _, _ := octet.ReadList(s, 0)
	two, _, _ := octet.ReadList(s, 0)
	one[0], one[1] = "x", "y"
	if !slices.Equal(two, []string{"ab", "cd"}) {
		t.Errorf("two answers share a list: %q", two)
	}
	text, _, _ := octet.ReadText(s, 1)
	if unsafe.StringData(text) == unsafe.StringData(s[2:]) || unsafe.StringData(two[0]) == unsafe.StringData(s[2:]) {
		t.Errorf("a text shares the bytes that it was read from")
	}
}

func FuzzRead(f *testing.F) {
	f.Add("\xac\x02", 0, 1)
	f.Add("x\x02\x01a\x00y", 1, 2)
	f.Add("", 0, 0)
	f.Add("\xff\xff\xff\xff\xff\xff\xff\xff\xff\x01", 0, 8)
	f.Fuzz(func(t *testing.T, s string, at, wide int) {
		if n, to, e := octet.ReadNumber(s, at); e == api.OK && octet.Number(n) != s[at:to] {
			t.Errorf("ReadNumber(%q, %d): %d, %d", s, at, n, to)
		}
		if x, to, e := octet.ReadText(s, at); e == api.OK && octet.Text(x) != s[at:to] {
			t.Errorf("ReadText(%q, %d): %q, %d", s, at, x, to)
		}
		if l, to, e := octet.ReadList(s, at); e == api.OK && octet.List(l) != s[at:to] {
			t.Errorf("ReadList(%q, %d): %q, %d", s, at, l, to)
		}
		if n, to, e := octet.ReadWide(s, at, wide); e == api.OK {
			if w, _ := octet.Wide(n, wide); w != s[at:to] {
				t.Errorf("ReadWide(%q, %d, %d): %d, %d", s, at, wide, n, to)
			}
		}
	})
}
