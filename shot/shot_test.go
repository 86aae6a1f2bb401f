package shot_test

import (
	"encoding/binary"
	"fmt"
	"math"
	"slices"
	"strings"
	"testing"
	"unsafe"

	"stowage/api"
	"stowage/shot"
)

func ok(t *testing.T, what string, e api.Errno) {
	t.Helper()
	is(t, what, e, api.OK)
}

func is(t *testing.T, what string, e, want api.Errno) {
	t.Helper()
	if e != want {
		t.Errorf("%s: %v, not %v", what, e, want)
	}
}

// bytesOf is n bytes, unlike one another.
func bytesOf(n int) string {
	b := make([]byte, n)
	for i := range b {
		b[i] = byte(i*7 + i>>8)
	}
	return string(b)
}

// same tells whether two snapshots are the same.
func same(a, b api.Shot) bool {
	return a.Index == b.Index && a.Term == b.Term && slices.Equal(a.Members, b.Members) && a.Data == b.Data
}

// none tells whether a snapshot is its zero value.
func none(s api.Shot) bool {
	return s.Index == 0 && s.Term == 0 && len(s.Members) == 0 && s.Data == ""
}

// textOf is a snapshot's text, by the library's numbers, whether it may be or not.
func textOf(s api.Shot) string {
	b := binary.AppendUvarint(nil, uint64(s.Index))
	b = binary.AppendUvarint(b, uint64(s.Term))
	b = binary.AppendUvarint(b, uint64(len(s.Members)))
	for _, m := range s.Members {
		b = binary.AppendUvarint(b, uint64(m))
	}
	return string(binary.AppendUvarint(b, uint64(len(s.Data)))) + s.Data
}

// good are snapshots that may be.
func good() []api.Shot {
	return []api.Shot{
		{Members: []int{0}},
		{Index: 1, Term: 2, Members: []int{0, 3}, Data: "x"},
		{Index: 300, Term: 127, Members: []int{6}, Data: "\x00\xff"},
		{Index: 128, Term: 16384, Members: []int{1, 2, 4, 5}, Data: bytesOf(128)},
		{Index: api.MaxTerm, Term: 0, Members: []int{0, 1, 2, 3, 4, 5, 6}, Data: ""},
		{Index: 0, Term: api.MaxTerm, Members: []int{5, 6}, Data: bytesOf(5000)},
		{Index: api.MaxTerm, Term: api.MaxTerm, Members: []int{0, 1, 2, 3, 4, 5, 6}, Data: bytesOf(api.MaxShot)},
		{Index: 7, Term: 7, Members: []int{0, 6}, Data: bytesOf(api.MaxShot - 1)},
	}
}

// bad are snapshots that may not be, with why.
func bad() []wrong {
	long := bytesOf(api.MaxShot + 1)
	l := []wrong{{api.Shot{Members: []int{0}, Data: long}, api.ErrLong}}
	for _, n := range []int{-1, math.MinInt, api.MaxTerm + 1, math.MaxInt} {
		l = append(l, wrong{api.Shot{Index: n, Members: []int{0}}, api.ErrArg}, wrong{api.Shot{Term: n, Members: []int{0}}, api.ErrArg})
		l = append(l, wrong{api.Shot{Index: n, Term: n, Members: []int{0}, Data: long}, api.ErrArg})
	}
	for _, m := range [][]int{
		nil, {}, {-1}, {7}, {math.MinInt}, {math.MaxInt}, {0, 7}, {-1, 0}, {0, 0}, {6, 6}, {3, 0}, {0, 2, 1}, {0, 1, 1}, {1, 2, 3, 2},
		{0, 1, 2, 3, 4, 5, 6, 7}, {0, 1, 2, 3, 4, 5, 6, 6}, {0, 0, 1, 2, 3, 4, 5, 6}, {-1, 0, 1, 2, 3, 4, 5, 6},
	} {
		l = append(l, wrong{api.Shot{Index: 1, Term: 1, Members: m}, api.ErrArg}, wrong{api.Shot{Index: 1, Term: 1, Members: m, Data: long}, api.ErrArg})
	}
	return l
}

type wrong struct {
	s api.Shot
	e api.Errno
}

// told names a snapshot in few bytes.
func told(s api.Shot) string {
	return fmt.Sprintf("%d, %d, %v, %d bytes", s.Index, s.Term, s.Members, len(s.Data))
}

// The examples of the chapter.
func TestExamples(t *testing.T) {
	s := api.Shot{Index: 1, Term: 2, Members: []int{0, 3}, Data: "x"}
	if text, e := shot.Encode(s); text != string([]byte{1, 2, 2, 0, 3, 1, 120}) || e != api.OK {
		t.Errorf("Encode: %q, %v", text, e)
	}
	if l, e := shot.Chunks(s, 4); len(l) != 2 || e != api.OK {
		t.Errorf("Chunks: %v, %v", l, e)
	}
}

// Promise 7.1: what may be, and its text, there and back.
func TestText(t *testing.T) {
	for _, s := range good() {
		ok(t, told(s), shot.Check(s))
		text, e := shot.Encode(s)
		if text != textOf(s) || e != api.OK {
			t.Errorf("%s: Encode: %.40q, %v", told(s), text, e)
		}
		if back, e := shot.Decode(text); !same(back, s) || e != api.OK {
			t.Errorf("%s: Decode: %s, %v", told(s), told(back), e)
		}
	}
}

// Promise 7.1: what may not be; an argument's error is told ahead of the length's.
func TestWrong(t *testing.T) {
	for _, w := range bad() {
		is(t, told(w.s), shot.Check(w.s), w.e)
		if text, e := shot.Encode(w.s); text != "" || e != w.e {
			t.Errorf("%s: Encode: %.40q, %v, not %v", told(w.s), text, e, w.e)
		}
		if s, e := shot.Decode(textOf(w.s)); !none(s) || e != api.ErrForm {
			t.Errorf("%s: Decode: %s, %v", told(w.s), told(s), e)
		}
	}
}

// Promise 7.1: texts that end early, or have something behind.
func TestCutTexts(t *testing.T) {
	for _, s := range good()[:6] {
		text := textOf(s)
		for cut := range len(text) {
			if back, e := shot.Decode(text[:cut]); !none(back) || e != api.ErrForm {
				t.Errorf("%s: Decode of %d bytes: %s, %v", told(s), cut, told(back), e)
			}
		}
		for _, behind := range []string{"\x00", "y", text} {
			if back, e := shot.Decode(text + behind); !none(back) || e != api.ErrForm {
				t.Errorf("%s: Decode with %.10q behind: %s, %v", told(s), behind, told(back), e)
			}
		}
	}
}

// Promise 7.1: texts that say what may not be, or not in the one form that numbers have.
func TestWrongTexts(t *testing.T) {
	great := string(binary.AppendUvarint(nil, math.MaxUint64))
	for _, text := range []string{
		"", "\x00", "\x00\x00\x00\x00",
		great + "\x00\x01\x00\x00", "\x00" + great + "\x01\x00\x00", "\x00\x00" + great, "\x00\x00\x01" + great + "\x00", "\x00\x00\x01\x00" + great,
		"\x80\x00\x00\x01\x00\x00", "\x00\x80\x00\x01\x00\x00", "\x00\x00\x81\x00\x00\x00", "\x00\x00\x01\x80\x00\x00", "\x00\x00\x01\x00\x80\x00",
		"\x00\x00\x01\x07\x00", "\x00\x00\x02\x01\x01\x00", "\x00\x00\x02\x01\x00\x00", "\x00\x00\x08\x00\x01\x02\x03\x04\x05\x06\x06\x00",
		"\x00\x00\x01\x00\x02x", "\x00\x00\x01\x00\x00x",
	} {
		if s, e := shot.Decode(text); !none(s) || e != api.ErrForm {
			t.Errorf("Decode(%q): %s, %v", text, told(s), e)
		}
	}
}

// Rule R3: an answer is nobody else's memory, and what is handed in stays as it is.
func TestSharesNothing(t *testing.T) {
	s := api.Shot{Index: 1, Term: 2, Members: []int{0, 3}, Data: "some data"}
	text, _ := shot.Encode(s)
	one, _ := shot.Decode(text)
	two, _ := shot.Decode(text)
	one.Members[0] = 9
	if two.Members[0] != 0 || unsafe.StringData(one.Data) == unsafe.StringData(two.Data) || unsafe.StringData(one.Data) == unsafe.StringData(text[len(text)-9:]) {
		t.Errorf("Decode: an answer is one memory with another")
	}
	for _, wide := range []int{4, 100} {
		l, _ := shot.Chunks(s, wide)
		again, _ := shot.Chunks(s, wide)
		for i := range l {
			if unsafe.StringData(l[i].Data) == unsafe.StringData(again[i].Data) {
				t.Errorf("Chunks: an answer is one memory with another")
			}
		}
		again[0].At = 9
		if l[0].At != 0 {
			t.Errorf("Chunks: an answer changed with another")
		}
	}
	if !slices.Equal(s.Members, []int{0, 3}) {
		t.Errorf("what was handed in changed")
	}
}

// Promise 7.1: whatever a text is, it says a snapshot only if it is that one's text.
func FuzzDecode(f *testing.F) {
	for _, s := range good()[:5] {
		f.Add(textOf(s))
		f.Add(textOf(s) + "x")
	}
	f.Add(strings.Repeat("\xff", 20))
	f.Fuzz(func(t *testing.T, text string) {
		s, e := shot.Decode(text)
		if e == api.OK && (shot.Check(s) != api.OK || textOf(s) != text) || e != api.OK && (e != api.ErrForm || !none(s)) {
			t.Errorf("Decode(%q): %s, %v", text, told(s), e)
		}
		g := shot.NewGather()
		if got, is, at := g.Take(api.Chunk{Index: s.Index, Term: s.Term, Last: true, Data: text}); is != (e == api.OK) || !same(got, s) || at != 0 {
			t.Errorf("Take of %q: %s, %v, %d", text, told(got), is, at)
		}
	})
}
