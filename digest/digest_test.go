package digest_test

import (
	"crypto/sha256"
	"encoding/binary"
	"encoding/hex"
	"math/rand"
	"strings"
	"testing"
	"unsafe"

	"stowage/api"
	"stowage/digest"
)

// some are n bytes of all kinds.
func some(n int) string {
	b := make([]byte, n)
	rand.New(rand.NewSource(int64(n))).Read(b)
	return string(b)
}

// known is what the library says that bytes' digest is.
func known(s string) string {
	d := sha256.Sum256([]byte(s))
	return string(d[:])
}

// Promise 3.1: the digests that are published.
func TestSumPublished(t *testing.T) {
	for _, c := range []struct{ s, want string }{
		{"", "e3b0c44298fc1c149afbf4c8996fb92427ae41e4649b934ca495991b7852b855"},
		{"abc", "ba7816bf8f01cfea414140de5dae2223b00361a396177a9cb410ff61f20015ad"},
		{"abcdbcdecdefdefgefghfghighijhijkijkljklmklmnlmnomnopnopq", "248d6a61d20638b8e5c026930c3e6039a33ce45964ff2167f6ecedd419db06c1"},
		{"abcdefghbcdefghicdefghijdefghijkefghijklfghijklmghijklmnhijklmnoijklmnopjklmnopqklmnopqrlmnopqrsmnopqrstnopqrstu", "cf5b16a778af8380036ce59e7b0492370b249b11e8f07a51afac45037afee9d1"},
		{strings.Repeat("a", 1000000), "cdc76e5c9914fb9281a1c7e284d73e67f1809a48a497200e046d39ccc7112cd0"},
		{"\xbd", "68325720aabd7c82f30f554b313d0570c95accbb7dc4b5aae11204c08ffe732b"},
		{strings.Repeat("\x00", 55), "02779466cdec163811d078815c633f21901413081449002f24aa3e80f0b88ef7"},
		{strings.Repeat("\x00", 56), "d4817aa5497628e7c77e6b606107042bbba3130888c5f47a375e6179be789fbb"},
		{strings.Repeat("\x00", 64), "f5a5fd42d16a20302798ef6ed309979b43003d2320d9f0e8ea9831a92759fb4b"},
	} {
		if got := digest.Hex(digest.Sum(c.s)); got != c.want {
			t.Errorf("the digest of %d bytes: %s, not %s", len(c.s), got, c.want)
		}
	}
}

// Promise 3.1: all lengths about the edges of some blocks, and greater ones.
func TestSumLengths(t *testing.T) {
	sizes := []int{4095, 4096, 4097, 8191, 8192, 65535, 65536, 1<<21 + 3}
	for n := range 300 {
		sizes = append(sizes, n)
	}
	for _, n := range sizes {
		for _, s := range []string{some(n), strings.Repeat("\x00", n), strings.Repeat("\xff", n)} {
			if digest.Sum(s) != known(s) {
				t.Errorf("the digest of %d bytes: %x, not %x", n, digest.Sum(s), known(s))
			}
		}
	}
}

// Promises 3.1 and 3.3: bytes that come in two pieces and in three, cut anywhere.
func TestWritePieces(t *testing.T) {
	s := some(150)
	want := known(s)
	for i := range len(s) + 1 {
		for j := i; j <= len(s); j++ {
			h := digest.New()
			h.Write(s[:i])
			h.Write(s[i:j])
			h.Write(s[j:])
			if h.Sum() != want {
				t.Errorf("cut at %d and %d: %x", i, j, h.Sum())
			}
		}
	}
}

// Promises 3.1 and 3.3: many pieces of one size, none among them.
func TestWriteManyPieces(t *testing.T) {
	s := some(1000)
	for size := 1; size <= 200; size++ {
		h := digest.New()
		for rest := s; rest != ""; rest = rest[min(size, len(rest)):] {
			h.Write("")
			h.Write(rest[:min(size, len(rest))])
		}
		if h.Sum() != known(s) {
			t.Errorf("pieces of %d bytes: %x", size, h.Sum())
		}
	}
}

// Promise 3.1: a Sum changes nothing, and more may come behind it.
func TestSumThenMore(t *testing.T) {
	s := some(300)
	h := digest.New()
	for i := range len(s) {
		for range 2 {
			if h.Sum() != known(s[:i]) {
				t.Errorf("behind %d bytes: %x", i, h.Sum())
			}
		}
		h.Write(s[i : i+1])
	}
	one, other := digest.New(), digest.New()
	one.Write("abc")
	if other.Sum() != known("") || one.Sum() != known("abc") {
		t.Errorf("two hashes are one")
	}
}

// Promise 3.1: a hash that is nil takes nothing; one that no call made is one of nothing.
func TestHashNotMade(t *testing.T) {
	var none *digest.Hash
	for range 2 {
		if s := none.Sum(); s != "" {
			t.Errorf("the Sum of a nil hash: %x", s)
		}
		none.Write("abc")
		none.Write("")
	}
	var zero digest.Hash
	if zero.Sum() != known("") {
		t.Errorf("the Sum of a hash that no call made: %x", zero.Sum())
	}
	zero.Write("abc")
	if zero.Sum() != known("abc") {
		t.Errorf("a hash that no call made took abc: %x", zero.Sum())
	}
	if h := digest.New(); h == nil || h.Sum() != known("") {
		t.Errorf("New is no hash of nothing")
	}
}

// tagged is the text whose digest is that of parts for a purpose.
func tagged(purpose byte, parts ...string) string {
	b := []byte{purpose}
	for _, p := range parts {
		b = binary.BigEndian.AppendUint64(b, uint64(len(p)))
		b = append(b, p...)
	}
	return string(b)
}

// Promise 3.1.
func TestTagged(t *testing.T) {
	if digest.Tagged(7, "a", "") != known("\x07\x00\x00\x00\x00\x00\x00\x00\x01a\x00\x00\x00\x00\x00\x00\x00\x00") {
		t.Errorf("two parts: %x", digest.Tagged(7, "a", ""))
	}
	lists := [][]string{nil, {}, {""}, {"", ""}, {"abc"}, {"a", "bc"}, {"ab", "c"}, {"abc", ""}, {"", "abc"}, {some(255)}, {some(256), some(257)}, {some(65536), "x"}, {some(1<<20 + 5)}, make([]string, 100)}
	for _, l := range lists {
		for _, purpose := range []byte{0, 1, 127, 128, 255} {
			if digest.Tagged(purpose, l...) != known(tagged(purpose, l...)) {
				t.Errorf("Tagged(%d) of %d parts: %x", purpose, len(l), digest.Tagged(purpose, l...))
			}
		}
	}
}

// Promise 3.1: parts that are cut otherwise, in another order, or for another purpose, have other digests.
func TestTaggedApart(t *testing.T) {
	met := map[string]string{}
	for _, purpose := range []byte{0, 1, 'a', 255} {
		for _, l := range [][]string{nil, {""}, {"", ""}, {"abcd"}, {"a", "bcd"}, {"ab", "cd"}, {"abc", "d"}, {"", "abcd"}, {"abcd", ""}, {"a", "b", "cd"}, {"cd", "ab"}, {"\x00"}, {"\x00\x00\x00\x00\x00\x00\x00\x00"}, {"a\x00\x00\x00\x00\x00\x00\x00\x01b"}, {"a", "b"}} {
			what := tagged(purpose, l...)
			d := digest.Tagged(purpose, l...)
			if other, there := met[d]; there {
				t.Errorf("%q and %q have one digest", what, other)
			}
			met[d] = what
		}
	}
	if parts := []string{"x", "y"}; digest.Tagged(1, parts...) != digest.Tagged(1, "x", "y") || parts[0] != "x" || parts[1] != "y" {
		t.Errorf("parts in a list are others, or were changed")
	}
}

// Promises 3.2 and 3.3.
func TestHex(t *testing.T) {
	for s, want := range map[string]string{"": "", "\x00": "00", "\x0f\xf0": "0ff0", "\x9a\xbc\xde": "9abcde", "\x01\x23\x45\x67\x89\xab\xcd\xef": "0123456789abcdef"} {
		if got := digest.Hex(s); got != want {
			t.Errorf("Hex(%q): %q, not %q", s, got, want)
		}
	}
	for n := range 70 {
		s := some(n)
		if digest.Hex(s) != hex.EncodeToString([]byte(s)) {
			t.Errorf("Hex of %d bytes: %s", n, digest.Hex(s))
		}
		if got, e := digest.Unhex(digest.Hex(s)); got != s || e != api.OK {
			t.Errorf("Unhex of the digits of %d bytes: %x, %v", n, got, e)
		}
	}
}

// Promises 3.2 and 3.3: of all pairs of bytes just those of two digits say something, each its own.
func TestUnhexPairs(t *testing.T) {
	const digits = "0123456789abcdef"
	for i := range 256 {
		for j := range 256 {
			s := string([]byte{byte(i), byte(j)})
			high, low := strings.IndexByte(digits, byte(i)), strings.IndexByte(digits, byte(j))
			want, wantErr := "", api.ErrForm
			if high >= 0 && low >= 0 {
				want, wantErr = string([]byte{byte(16*high + low)}), api.OK
			}
			if got, e := digest.Unhex(s); got != want || e != wantErr {
				t.Errorf("Unhex(%q): %q, %v", s, got, e)
			}
			if wantErr == api.OK && digest.Hex(want) != s {
				t.Errorf("%q is told as %q too", digest.Hex(want), s)
			}
		}
	}
}

// Promise 3.2: what is no digits.
func TestUnhexWrong(t *testing.T) {
	for _, s := range []string{"0", "a", "000", "g", "0g", "g0", "FF", "0A", "aB", "0x00", " 00", "00 ", "00\n", "0 0", "00é", "00-1", "+1", "\x00\x00", "00ff0", "00ffzz", "zz00ff", "/0", ":0", "0`", "\xff\xff"} {
		if got, e := digest.Unhex(s); got != "" || e != api.ErrForm {
			t.Errorf("Unhex(%q): %q, %v", s, got, e)
		}
	}
	good := digest.Hex(some(40))
	for i := range len(good) {
		for _, s := range []string{good[:i] + "g" + good[i+1:], good[:i] + good[i+1:], good[:i] + "A" + good[i+1:]} {
			if got, e := digest.Unhex(s); got != "" || e != api.ErrForm {
				t.Errorf("Unhex(%q): %q, %v", s, got, e)
			}
		}
	}
}

// Rule R3: no answer shares memory with another one.
func TestAnswersShareNothing(t *testing.T) {
	h := digest.New()
	h.Write("abc")
	a, b := h.Sum(), h.Sum()
	if unsafe.StringData(a) == unsafe.StringData(b) {
		t.Errorf("two Sums are one memory")
	}
	c, _ := digest.Unhex("00ff")
	d, _ := digest.Unhex("00ff")
	if unsafe.StringData(c) == unsafe.StringData(d) {
		t.Errorf("two answers of Unhex are one memory")
	}
}

// Promises 3.1, 3.2 and 3.3 at any bytes.
func FuzzDigest(f *testing.F) {
	for _, s := range []string{"", "abc", "00ff", "0G", strings.Repeat("a", 64)} {
		f.Add(s, 1)
	}
	f.Fuzz(func(t *testing.T, s string, at int) {
		at = min(max(at, 0), len(s))
		h := digest.New()
		h.Write(s[:at])
		if h.Sum() != known(s[:at]) {
			t.Errorf("a beginning's digest")
		}
		h.Write(s[at:])
		if h.Sum() != known(s) {
			t.Errorf("the whole's digest")
		}
		if digest.Tagged(9, s[:at], s[at:]) != known(tagged(9, s[:at], s[at:])) {
			t.Errorf("two parts' digest")
		}
		if got, e := digest.Unhex(digest.Hex(s)); got != s || e != api.OK {
			t.Errorf("Unhex of Hex: %q, %v", got, e)
		}
		if got, e := digest.Unhex(s); e == api.OK && digest.Hex(got) != s || e != api.OK && (got != "" || e != api.ErrForm) {
			t.Errorf("Unhex(%q): %q, %v", s, got, e)
		}
	})
}
