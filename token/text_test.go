package token_test

import (
	"fmt"
	"math"
	"slices"
	"strings"
	"testing"

	"stowage/api"
	"stowage/token"
)

// number is a number's bytes by the words of chapter 1.
func number(n uint64) string {
	s := ""
	for n >= 128 {
		s += string([]byte{byte(n%128) + 128})
		n /= 128
	}
	return s + string([]byte{byte(n)})
}

// text is a text's bytes.
func text(s string) string { return number(uint64(len(s))) + s }

// fields are the numbers and texts of a table's text, one by one; what a kept token has is told as it stands, whether it may be or not.
func fields(l []api.Held) []string {
	all := []string{number(uint64(len(l)))}
	for _, h := range l {
		all = append(all, text(h.Token), text(h.Sum), text(h.Out), number(uint64(h.At)))
	}
	return all
}

// textOf is the text that the chapter says.
func textOf(l []api.Held) string { return strings.Join(fields(l), "") }

// noText asks that a text is refused.
func noText(t *testing.T, what, s string) {
	t.Helper()
	l, e := token.Decode(s)
	noTable(t, fmt.Sprintf("Decode of %s (%.300q)", what, s), l, e, api.ErrForm)
}

// Promise 15.2: texts, and back again.
func TestText(t *testing.T) {
	for _, c := range tables() {
		s, e := token.Encode(c)
		if s != textOf(c) || e != api.OK {
			t.Errorf("Encode of %s: %.200q, %v", short(c), s, e)
		}
		l, e := token.Decode(s)
		isTable(t, "Decode of "+short(c), l, e, c...)
	}
	for _, c := range []struct {
		l    []api.Held
		want string
	}{
		{nil, "\x00"},
		{[]api.Held{{Token: "t", Sum: zeros(), At: 3}}, "\x01\x01t\x40" + zeros() + "\x00\x03"},
		{[]api.Held{{Token: "ab", Sum: digits(1), Out: "out", At: 300}, {Token: "b", Sum: digits(2), Out: rep("o", 200), At: 1 << 40}}, "\x02\x02ab\x40" + digits(1) + "\x03out\xac\x02" + "\x01b\x40" + digits(2) + "\xc8\x01" + rep("o", 200) + "\x80\x80\x80\x80\x80\x20"},
	} {
		if s, e := token.Encode(c.l); s != c.want || e != api.OK {
			t.Errorf("Encode of %s: %q, %v", short(c.l), s, e)
		}
	}
}

// Promise 15.2: a text that is cut anywhere, or has more behind it, is none.
func TestTextCut(t *testing.T) {
	for _, c := range tables() {
		s := textOf(c)
		for i := range len(s) {
			noText(t, "a text that is cut", s[:i])
		}
		for _, behind := range []string{"\x00", "\x01", "x", "\xff", s} {
			noText(t, "a text with more behind it", s+behind)
		}
		if len(c) > 0 {
			noText(t, "a text with more ahead of it", "\x00"+s)
		}
	}
}

// Promise 15.2: a text of a list that is no table.
func TestTextOfNone(t *testing.T) {
	for _, c := range noTables() {
		noText(t, "the text of "+short(c), textOf(c))
	}
}

// bound is a field of a text, and what may not stand there.
type bound struct {
	what string
	at   int
	bad  []string
}

// texts are the bytes of texts.
func texts(l ...string) []string {
	var all []string
	for _, s := range l {
		all = append(all, text(s))
	}
	return all
}

// Promise 15.2: each number and each text beyond its bounds.
func TestTextBounds(t *testing.T) {
	c := []api.Held{held("b", 5), held("f", 6), held("m", 7)}
	all := fields(c)
	huge := []string{number(1 << 41), number(1 << 62), number(1<<63 - 1), number(1 << 63), number(1<<63 + 1), number(math.MaxUint64), "\xff\xff\xff\xff\xff\xff\xff\xff\xff\x02", "\xff\xff\xff\xff\xff\xff\xff\xff\xff\xff\x01"}
	wrongAt := []string{number(0), number(1<<40 + 1)}
	wrongOut := texts(rep("o", 4097), rep("o", 8192), rep("o", 70000))
	wrongSum := texts(notDigits()...)
	wrongToken := texts(notTokens()...)
	for _, b := range []bound{
		{"how many", 0, []string{number(0), number(2), number(4), number(64), number(65), number(1 << 31), number(1<<32 + 3)}},
		{"the first Token", 1, append(texts("f", "g", "m", "z"), wrongToken...)},
		{"the first Sum", 2, wrongSum},
		{"the first Out", 3, wrongOut},
		{"the first At", 4, wrongAt},
		{"the middle Token", 5, append(texts("a", "b", "m", "n"), wrongToken...)},
		{"the middle Sum", 6, wrongSum},
		{"the middle Out", 7, wrongOut},
		{"the middle At", 8, wrongAt},
		{"the last Token", 9, append(texts("a", "b", "c", "f"), wrongToken...)},
		{"the last Sum", 10, wrongSum},
		{"the last Out", 11, wrongOut},
		{"the last At", 12, wrongAt},
	} {
		bad := append(slices.Clone(b.bad), huge...)
		bad = append(bad, longer(all[b.at]), "")
		for _, s := range bad {
			changed := slices.Clone(all)
			changed[b.at] = s
			noText(t, fmt.Sprintf("%s as %.80q", b.what, s), strings.Join(changed, ""))
		}
	}
	if len(all) != 13 {
		t.Errorf("%d fields", len(all))
	}
}

// longer is a number, or a text, whose number has one byte more than it may.
func longer(s string) string {
	return string([]byte{s[0] | 128}) + "\x00" + s[1:]
}

// Promise 15.2: as many tokens and bytes as may be, and one more.
func TestTextMost(t *testing.T) {
	full := rising(65)
	for i := range full {
		full[i].Token += rep("~", 60)
		full[i].Out = rep("\xff", 4096)
		full[i].At = 1 << 40
	}
	s, e := token.Encode(full[:64])
	if s != textOf(full[:64]) || e != api.OK {
		t.Fatalf("Encode of all that may be: %d bytes, %v", len(s), e)
	}
	l, e := token.Decode(s)
	isTable(t, "Decode of all that may be", l, e, full[:64]...)
	noText(t, "65 tokens", textOf(full))
	noText(t, "many tokens and nothing", number(1<<40))
	noText(t, "nothing", "")
}

// Promise 15.2: a text has one form: with any byte changed it is that of another table, or of none.
func TestOneText(t *testing.T) {
	for _, c := range [][]api.Held{nil, named("t"), {held("a", 300), {Token: "b", Sum: zeros(), Out: rep("o", 130), At: 1 << 40}}} {
		s := textOf(c)
		for i := range len(s) {
			for x := range 256 {
				oneForm(t, s[:i]+string([]byte{byte(x)})+s[i+1:])
			}
			oneForm(t, s[:i]+s[i+1:])
			oneForm(t, s[:i]+"\x00"+s[i:])
			oneForm(t, s[:i]+"\x01"+s[i:])
		}
	}
	for a := range 256 {
		for b := range 256 {
			s := string([]byte{byte(a), byte(b)})
			noText(t, "two bytes", s)
			noText(t, "three bytes", s+"\x00")
		}
	}
}

// oneForm asks that a text is refused, or is just what Encode tells of what it says.
func oneForm(t *testing.T, s string) {
	t.Helper()
	l, e := token.Decode(s)
	if e != api.OK {
		noTable(t, "Decode", l, e, api.ErrForm)
		return
	}
	if again, e := token.Encode(l); again != s || e != api.OK {
		t.Errorf("Decode of %q: %s", s, short(l))
	}
}

// Any bytes are a table, in their one form, or none.
func FuzzDecode(f *testing.F) {
	for _, c := range [][]api.Held{nil, named("t"), named("a", "b"), named("b", "a"), {{Token: "t", Sum: zeros(), At: 1 << 40}}} {
		f.Add(textOf(c))
	}
	f.Add("\x81\x00\x00")
	f.Fuzz(func(t *testing.T, s string) { oneForm(t, s) })
}
