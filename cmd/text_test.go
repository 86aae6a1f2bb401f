package cmd_test

import (
	"fmt"
	"math"
	"slices"
	"strings"
	"testing"

	"stowage/api"
	"stowage/cmd"
)

// number is a number's bytes by the words of chapter 1.
func number(n uint64) string {
	s := ""
	for n >= 128 {
		s += string([]byte{byte(n%128) + 128})
		n /= 128
	}
	return s + string([]byte{byte(n)})
}

// text is a text's bytes.
func text(s string) string { return number(uint64(len(s))) + s }

// atom is a number or a text of a command's text: of which field, its bytes.
type atom struct{ of, s string }

// atoms are the numbers and texts of a command's text, one by one; what a field has is told as it stands, whether it may be or not.
func atoms(c api.Cmd) []atom {
	all := []atom{{"Kind", number(uint64(c.Kind))}}
	put := func(of, s string) { all = append(all, atom{of, s}) }
	for _, f := range strings.Fields(has(c.Kind)) {
		switch f {
		case "Token":
			put(f, text(c.Token))
		case "Bucket":
			put(f, text(c.Bucket))
		case "Key":
			put(f, text(c.Key))
		case "ID":
			put(f, number(uint64(c.ID)))
		case "N":
			put(f, number(uint64(c.N)))
		case "Sum":
			put(f, text(c.Sum))
		case "Pieces":
			put("how many Pieces", number(uint64(len(c.Pieces))))
			for _, p := range c.Pieces {
				put("a piece's ID", text(p.ID))
				put("a piece's Size", number(uint64(p.Size)))
			}
		case "Picks":
			put("how many Picks", number(uint64(len(c.Picks))))
			for _, k := range c.Picks {
				put("a pick's N", number(uint64(k.N)))
				put("a pick's Sum", text(k.Sum))
			}
		}
	}
	return all
}

// joined is the text of atoms.
func joined(all []atom) string {
	var s strings.Builder
	for _, a := range all {
		s.WriteString(a.s)
	}
	return s.String()
}

// textOf is the text that the chapter says.
func textOf(c api.Cmd) string { return joined(atoms(c)) }

// noText asks that a text is refused, and nothing is told beside the error.
func noText(t *testing.T, what, s string) {
	t.Helper()
	if c, e := cmd.Decode(s); e != api.ErrForm || !equal(c, api.Cmd{}) {
		t.Errorf("Decode of %s (%.300q): %v, %s", what, s, e, short(c))
	}
}

// Promise 16.1: texts, and back again.
func TestText(t *testing.T) {
	for _, c := range good() {
		s, e := cmd.Encode(c)
		if s != textOf(c) || e != api.OK {
			t.Errorf("Encode of %s: %.200q, %v", short(c), s, e)
		}
		if d, e := cmd.Decode(s); e != api.OK || !equal(c, d) {
			t.Errorf("Decode of %.200q: %s, %v, not %s", s, short(d), e, short(c))
		}
	}
	for _, x := range []struct {
		c    api.Cmd
		want string
	}{
		{api.Cmd{Kind: api.CmdDrop, Token: "tok", Bucket: "two"}, "\x02\x03tok\x03two"},
		{api.Cmd{Kind: api.CmdPut, Bucket: "one", Key: "k", Sum: digits(1)}, "\x03\x00\x03one\x01k\x40" + digits(1) + "\x00"},
		{api.Cmd{Kind: api.CmdPut, Token: "t", Bucket: "one", Key: "k", Sum: digits(1), Pieces: []api.Piece{{ID: digits(2), Size: 300}}}, "\x03\x01t\x03one\x01k\x40" + digits(1) + "\x01\x40" + digits(2) + "\xac\x02"},
		{api.Cmd{Kind: api.CmdMark, Bucket: "one", Key: "k"}, "\x04\x00\x03one\x01k"},
		{api.Cmd{Kind: api.CmdErase, Bucket: "one", Key: "k", ID: 1 << 40}, "\x05\x00\x03one\x01k\x80\x80\x80\x80\x80\x20"},
		{api.Cmd{Kind: api.CmdBegin, Bucket: "one", Key: "k"}, "\x06\x00\x03one\x01k"},
		{api.Cmd{Kind: api.CmdPart, Token: "t", Bucket: "one", Key: "k", ID: 7, N: 100, Sum: digits(1), Pieces: []api.Piece{{ID: digits(2), Size: 1}, {ID: digits(3), Size: 2}}}, "\x07\x01t\x03one\x01k\x07\x64\x40" + digits(1) + "\x02\x40" + digits(2) + "\x01\x40" + digits(3) + "\x02"},
		{api.Cmd{Kind: api.CmdJoin, Bucket: "one", Key: "k", ID: 7, Picks: []api.Pick{{N: 0, Sum: digits(1)}, {N: 100, Sum: digits(2)}}}, "\x08\x00\x03one\x01k\x07\x02\x00\x40" + digits(1) + "\x64\x40" + digits(2)},
		{api.Cmd{Kind: api.CmdStop, Bucket: "one", Key: "k", ID: 7}, "\x09\x00\x03one\x01k\x07"},
		{api.Cmd{Kind: api.CmdExpire}, "\x0a\x00"},
		{api.Cmd{Kind: api.CmdExpire, ID: 300}, "\x0a\xac\x02"},
	} {
		if s, e := cmd.Encode(x.c); s != x.want || e != api.OK {
			t.Errorf("Encode of %s: %q, %v", short(x.c), s, e)
		}
		if d, e := cmd.Decode(x.want); e != api.OK || !equal(d, x.c) {
			t.Errorf("Decode of %q: %s, %v", x.want, short(d), e)
		}
	}
}

// Promise 16.1: a text that is cut anywhere, or has more behind it, is none.
func TestTextCut(t *testing.T) {
	for _, c := range good() {
		s := textOf(c)
		step := 1 + len(s)/1000
		for i := 0; i < len(s); i += step {
			noText(t, "a text that is cut", s[:i])
		}
		noText(t, "a text without its last byte", s[:len(s)-1])
		for _, behind := range []string{"\x00", "\x01", "x", "\xff", s} {
			noText(t, "a text with more behind it", s+behind)
		}
		noText(t, "a text with more ahead of it", "\x00"+s)
	}
}

// Promise 16.1: texts of commands that may not be.
func TestTextOfNone(t *testing.T) {
	for _, c := range bad() {
		noText(t, "the text of "+short(c), textOf(c))
	}
	for _, none := range []uint64{0, 11, 12, 127, 128, 1<<32 + 1, 1 << 63, math.MaxUint64} {
		noText(t, "no kind", number(none))
		for _, kind := range kinds() {
			noText(t, "no kind", number(none)+textOf(plain(kind))[1:])
		}
	}
}

// texts are the bytes of texts.
func texts(l ...string) []string {
	var all []string
	for _, s := range l {
		all = append(all, text(s))
	}
	return all
}

// beyond are what may not stand in the place of a number or a text.
func beyond(of string) []string {
	huge := []string{number(1<<40 + 1), number(1 << 62), number(1<<63 - 1), number(1 << 63), number(1<<63 + 1), number(math.MaxUint64), "\xff\xff\xff\xff\xff\xff\xff\xff\xff\x02", "\xff\xff\xff\xff\xff\xff\xff\xff\xff\xff\x01"}
	switch of {
	case "Kind":
		return append(huge, number(0), number(11), number(300))
	case "Token":
		return append(huge, texts(" ", "a b", "t\x00", rep("t", 65), rep("t", 1025))...)
	case "Bucket":
		return append(huge, texts("", "ab", rep("b", 64), "Abc", rep("b", 1025))...)
	case "Key":
		return append(huge, texts("", "\x00", rep("k", 1025), rep("k", 70000))...)
	case "ID":
		return huge
	case "N":
		return append(huge, number(0), number(101), number(1<<32+1))
	case "Sum", "a piece's ID", "a pick's Sum":
		return append(huge, texts(notDigits()...)...)
	case "how many Pieces":
		return append(huge, number(0), number(1), number(3), number(512), number(513))
	case "a piece's Size":
		return append(huge, number(0), number(4097), number(8192))
	case "how many Picks":
		return append(huge, number(0), number(1), number(3), number(100), number(101))
	}
	return append(huge, number(101), number(128), number(1<<32))
}

// longer is a number, or a text, whose number has one byte more than it may.
func longer(s string) string {
	return string([]byte{s[0] | 128}) + "\x00" + s[1:]
}

// Promise 16.1: each number and each text beyond its bounds, at each kind.
func TestTextBounds(t *testing.T) {
	many := 0
	for _, kind := range kinds() {
		all := atoms(plain(kind))
		for i, a := range all {
			for _, s := range append(beyond(a.of), longer(a.s), "") {
				changed := slices.Clone(all)
				changed[i].s = s
				noText(t, fmt.Sprintf("%s of the kind %d as %.80q", a.of, kind, s), joined(changed))
				many++
			}
		}
	}
	if many < 800 {
		t.Errorf("%d changed", many)
	}
	noText(t, "nothing", "")
}

// Promise 16.1: a text has one form: with any byte changed it is that of another command, or of none.
func TestOneText(t *testing.T) {
	for _, kind := range kinds() {
		for _, c := range []api.Cmd{plain(kind), set(plain(kind), "Token", "")} {
			s := textOf(c)
			for i := range len(s) {
				for x := range 256 {
					oneForm(t, s[:i]+string([]byte{byte(x)})+s[i+1:])
				}
				oneForm(t, s[:i]+s[i+1:])
				oneForm(t, s[:i]+"\x00"+s[i:])
				oneForm(t, s[:i]+"\x01"+s[i:])
			}
		}
	}
	for a := range 256 {
		for b := range 256 {
			for _, c := range []string{"", "\x00", "\x01"} {
				oneForm(t, string([]byte{byte(a), byte(b)})+c)
			}
		}
	}
}

// oneForm asks that a text is refused, or is just what Encode tells of what it says.
func oneForm(t *testing.T, s string) {
	t.Helper()
	c, e := cmd.Decode(s)
	if e != api.OK {
		if e != api.ErrForm || !equal(c, api.Cmd{}) {
			t.Errorf("Decode of %q: %v, %s", s, e, short(c))
		}
		return
	}
	if again, e := cmd.Encode(c); again != s || e != api.OK || textOf(c) != s {
		t.Errorf("Decode of %q: %s", s, short(c))
	}
}

// Any bytes are a command, in its one form, or none.
func FuzzDecode(f *testing.F) {
	for _, kind := range kinds() {
		f.Add(textOf(plain(kind)))
		f.Add(textOf(set(plain(kind), "Token", "")))
	}
	f.Add("\x81\x00\x00")
	f.Fuzz(func(t *testing.T, s string) { oneForm(t, s) })
}
