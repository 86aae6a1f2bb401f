package frame_test

import (
	"hash/crc32"
	"math"
	"slices"
	"strings"
	"testing"
	"unsafe"

	"stowage/api"
	"stowage/frame"
)

// full are as many bytes as a body may have.
var full = strings.Repeat("0123456789abcdef", api.MaxFrame/16)

// bodies are some of all sizes.
var bodies = []string{"", "\x00", "abc", "\x00\x00\x00\x00", strings.Repeat("\xff", 300), full[:70000], full}

func framed(t *testing.T, body string) string {
	t.Helper()
	s, e := frame.Frame(body)
	if e != api.OK {
		t.Fatalf("Frame of %d bytes: %v", len(body), e)
	}
	return s
}

// turned are bytes with one of them changed.
func turned(s string, at int, bits byte) string {
	b := []byte(s)
	b[at] ^= bits
	return string(b)
}

// Promise 2.1.
func TestSum(t *testing.T) {
	for s, want := range map[string]uint32{
		"": 0, "123456789": 0xcbf43926, "a": 0xe8b7be43, "\x00": 0xd202ef8d, "\x00\x00\x00\x00": 0x2144df1c, "\xff\xff\xff\xff": 0xffffffff,
	} {
		if got := frame.Sum(s); got != want {
			t.Errorf("Sum(%q): %#x, not %#x", s, got, want)
		}
	}
	every := make([]byte, 256)
	for i := range every {
		every[i] = byte(i)
	}
	for from := range every {
		if s := string(every[from:]); frame.Sum(s) != crc32.ChecksumIEEE([]byte(s)) {
			t.Errorf("the Sum of the bytes from %d on: %#x", from, frame.Sum(s))
		}
	}
}

// Promise 2.1.
func TestFrame(t *testing.T) {
	for body, want := range map[string]string{
		"":    "\x00\x00\x00\x00\x21\x44\xdf\x1c",
		"abc": "\x00\x00\x00\x03\x45\xbc\xe8\x40abc",
	} {
		if got := framed(t, body); got != want {
			t.Errorf("Frame(%q): %q", body, got)
		}
	}
	for _, body := range bodies {
		size := string([]byte{byte(len(body) >> 24), byte(len(body) >> 16), byte(len(body) >> 8), byte(len(body))})
		n := crc32.ChecksumIEEE([]byte(size + body))
		sum := string([]byte{byte(n >> 24), byte(n >> 16), byte(n >> 8), byte(n)})
		if framed(t, body) != size+sum+body {
			t.Errorf("the frame of %d bytes is another one", len(body))
		}
	}
}

// Promise 2.1: a body at and above the bound.
func TestFrameLong(t *testing.T) {
	if s := framed(t, full); len(s) != api.MaxFrame+8 || s[:4] != "\x00\x04\x00\x00" {
		t.Errorf("the greatest frame: %d bytes", len(s))
	}
	for _, more := range []string{"x", full} {
		if s, e := frame.Frame(full + more); s != "" || e != api.ErrLong {
			t.Errorf("Frame of %d bytes: %d bytes, %v", len(full+more), len(s), e)
		}
	}
}

// Promises 2.2 and 2.3: what is framed is found, wherever it stands.
func TestUnframe(t *testing.T) {
	for _, body := range bodies {
		s := framed(t, body)
		for _, ahead := range []string{"", "x", "\xff\xff\xff\xff\xff", s} {
			for _, behind := range []string{"", "\x00", "\xff\xff\xff\xff", s} {
				got, at, e := frame.Unframe(ahead+s+behind, len(ahead))
				if got != body || at != len(ahead+s) || e != api.OK {
					t.Errorf("Unframe of %d bytes behind %d: %d bytes, %d, %v", len(body), len(ahead), len(got), at, e)
				}
			}
		}
	}
}

// none asks that there is no frame, and why.
func none(t *testing.T, what, s string, at int, want api.Errno) {
	t.Helper()
	if body, to, e := frame.Unframe(s, at); body != "" || to != 0 || e != want {
		t.Errorf("%s: %d bytes, %d, %v, not %v", what, len(body), to, e, want)
	}
}

// Promise 2.2: a place outside the text.
func TestUnframePlace(t *testing.T) {
	for _, s := range []string{"", "abc", framed(t, "abc")} {
		for _, at := range []int{-1, len(s) + 1, math.MinInt, math.MaxInt} {
			none(t, "a place outside", s, at, api.ErrArg)
		}
		none(t, "the end", s, len(s), api.ErrEnd)
	}
}

// Promises 2.2 and 2.3: a frame that ends early is none.
func TestUnframeCut(t *testing.T) {
	for _, body := range []string{"", "abc", strings.Repeat("\x00", 40)} {
		s := framed(t, body)
		for cut := range len(s) {
			none(t, "a cut frame", s[:cut], 0, api.ErrEnd)
			none(t, "a cut frame behind another one", s+s[:cut], len(s), api.ErrEnd)
		}
	}
	s := framed(t, full)
	none(t, "the greatest frame but a byte", s[:len(s)-1], 0, api.ErrEnd)
	none(t, "the greatest size alone", "\x00\x04\x00\x00", 0, api.ErrEnd)
}

// Promise 2.2: a size above the bound is told ahead of where the bytes end, and of the sum.
func TestUnframeLong(t *testing.T) {
	for _, size := range []string{"\x00\x04\x00\x01", "\x7f\xff\xff\xff", "\x80\x00\x00\x00", "\xff\xff\xff\xff"} {
		none(t, "a size alone", size, 0, api.ErrLong)
		none(t, "a size and some bytes", "ab"+size+"cd", 2, api.ErrLong)
	}
	size := "\x00\x04\x00\x01"
	n := frame.Sum(size + full + "x")
	sum := string([]byte{byte(n >> 24), byte(n >> 16), byte(n >> 8), byte(n)})
	none(t, "a body above the bound", size+sum+full+"x", 0, api.ErrLong)
}

// Promises 2.2 and 2.3: a bit that is turned in the sum or the body is found; in the size it makes another frame.
func TestUnframeTurned(t *testing.T) {
	for _, body := range []string{"", "a", "abc", strings.Repeat("\x00", 30)} {
		s := framed(t, body)
		for at := 4; at < len(s); at++ {
			for bit := range 8 {
				none(t, "a turned bit", turned(s, at, 1<<bit), 0, api.ErrSum)
			}
		}
	}
	s := framed(t, "abc")
	none(t, "a smaller size", turned(s, 3, 1), 0, api.ErrSum)
	none(t, "a greater size", turned(s, 3, 4), 0, api.ErrEnd)
	none(t, "a greater size with bytes behind it", turned(s, 3, 4)+"defg", 0, api.ErrSum)
	none(t, "a size above the bound", turned(s, 0, 1), 0, api.ErrLong)
	none(t, "zeros", strings.Repeat("\x00", 64), 0, api.ErrSum)
	none(t, "the sum of the body alone", "\x00\x00\x00\x03\x35\x24\x41\xc2abc", 0, api.ErrSum)
}

// Promise 2.3: bits that are turned within 32 side by side are found.
func TestUnframeBursts(t *testing.T) {
	body := "a body of some bytes, in which bits are turned"
	s := framed(t, body)
	draw := uint32(1)
	for first := range 8*len(body) - 31 {
		for range 16 {
			draw = draw*1664525 + 1013904223
			b := []byte(s)
			for bit := range 32 {
				if (draw|1)>>bit&1 == 1 {
					b[8+(first+bit)/8] ^= 1 << ((first + bit) % 8)
				}
			}
			none(t, "turned bits", string(b), 0, api.ErrSum)
		}
	}
}

// Promises 2.2 and 2.3.
func TestFrames(t *testing.T) {
	var s string
	for i, body := range bodies {
		s += framed(t, body)
		for _, behind := range []string{"", "\x00", "\xff\xff\xff\xff\xff", strings.Repeat("\x00", 8), framed(t, "cut")[:10]} {
			got, at := frame.Frames(s + behind)
			if !slices.Equal(got, bodies[:i+1]) || at != len(s) {
				t.Errorf("Frames of %d ahead of %q: %d, up to %d", i+1, behind, len(got), at)
			}
		}
	}
	for _, s := range []string{"", "\x00", "\xff\xff\xff\xff", strings.Repeat("\x00", 8), framed(t, "abc")[:10]} {
		if got, at := frame.Frames(s); len(got) != 0 || at != 0 {
			t.Errorf("Frames of %q: %q, up to %d", s, got, at)
		}
	}
}

// Promise 2.3: what stands behind one that is none is not found.
func TestFramesStop(t *testing.T) {
	one, two := framed(t, "one"), framed(t, "two")
	got, at := frame.Frames(one + turned(two, 9, 1) + one)
	if !slices.Equal(got, []string{"one"}) || at != len(one) {
		t.Errorf("Frames around a turned one: %q, up to %d", got, at)
	}
}

// Rule R3: an answer is memory of its own.
func TestAnswersShareNothing(t *testing.T) {
	s := framed(t, "abcd") + framed(t, "efgh")
	one, _ := frame.Frames(s)
	two, _ := frame.Frames(s)
	one[0], one[1] = "x", "y"
	if !slices.Equal(two, []string{"abcd", "efgh"}) {
		t.Errorf("two answers share a list: %q", two)
	}
	body, _, _ := frame.Unframe(s, 0)
	if unsafe.StringData(body) == unsafe.StringData(s[8:]) || unsafe.StringData(two[0]) == unsafe.StringData(s[8:]) {
		t.Errorf("a body shares the bytes that it was found in")
	}
}

func FuzzUnframe(f *testing.F) {
	f.Add("\x00\x00\x00\x00\x21\x44\xdf\x1c", 0)
	f.Add("x\x00\x00\x00\x03", 1)
	f.Add("", -1)
	f.Fuzz(func(t *testing.T, s string, at int) {
		if body, to, e := frame.Unframe(s, at); e == api.OK && framed(t, body) != s[at:to] {
			t.Errorf("Unframe(%q, %d): %q, %d", s, at, body, to)
		}
		all := ""
		bodies, at := frame.Frames(s)
		for _, body := range bodies {
			all += framed(t, body)
		}
		if all != s[:at] {
			t.Errorf("Frames(%q): %q, %d", s, bodies, at)
		}
	})
}
