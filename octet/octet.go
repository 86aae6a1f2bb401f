// Package octet is layer 1: see shared/doc/01-octet.md.
package octet

import (
	"strings"

	"stowage/api"
)

// A byte of a number holds so many of its bits, and more says that another byte follows.
const (
	group = 7
	more  = 1 << group
	low   = more - 1
)

// 64 bits fill nine groups and one bit, so the tenth byte is the last one and holds that bit alone.
const (
	lastPlace = 9
	lastByte  = 1
)

// mostWide is how many bytes 64 bits fill.
const mostWide = 8

// Number is a number's bytes.
func Number(n uint64) string {
	return string(appendNumber(nil, n))
}

// Text is a text's bytes: how many, and they.
func Text(s string) string {
	return string(appendText(nil, s))
}

// List is a list's bytes: how many texts, and they.
func List(l []string) string {
	b := appendNumber(nil, uint64(len(l)))
	for i := range len(l) {
		b = appendText(b, l[i])
	}
	return string(b)
}

// Wide is a number in so many bytes, the highest first.
func Wide(n uint64, wide int) (string, api.Errno) {
	if !isWide(wide) || n>>(8*wide) != 0 {
		return "", api.ErrArg
	}
	b := make([]byte, wide)
	for i := range wide {
		b[wide-1-i] = byte(n >> (8 * i))
	}
	return string(b), api.OK
}

// ReadNumber takes a number that stands at a place.
func ReadNumber(s string, at int) (uint64, int, api.Errno) {
	if !isPlace(s, at) {
		return 0, 0, api.ErrArg
	}
	n := uint64(0)
	for i := range len(s) - at {
		c := s[at+i]
		if !mayStand(c, i) {
			return 0, 0, api.ErrForm
		}
		n |= uint64(c&low) << (group * i)
		if c < more {
			return n, at + i + 1, api.OK
		}
	}
	return 0, 0, api.ErrEnd
}

// ReadText takes a text that stands at a place.
func ReadText(s string, at int) (string, int, api.Errno) {
	size, from, e := ReadNumber(s, at)
	if e != api.OK {
		return "", 0, e
	}
	if size > uint64(len(s)-from) {
		return "", 0, api.ErrEnd
	}
	to := from + int(size)
	return strings.Clone(s[from:to]), to, api.OK
}

// ReadList takes a list that stands at a place.
func ReadList(s string, at int) ([]string, int, api.Errno) {
	count, next, e := ReadNumber(s, at)
	if e != api.OK {
		return nil, 0, e
	}
	// The count may be any number, so it makes no room ahead: each text takes a byte at least, and they run out.
	var l []string
	for range count {
		var text string
		text, next, e = ReadText(s, next)
		if e != api.OK {
			return nil, 0, e
		}
		l = append(l, text)
	}
	return l, next, api.OK
}

// ReadWide takes a number of so many bytes that stands at a place.
func ReadWide(s string, at, wide int) (uint64, int, api.Errno) {
	if !isWide(wide) || !isPlace(s, at) {
		return 0, 0, api.ErrArg
	}
	if wide > len(s)-at {
		return 0, 0, api.ErrEnd
	}
	n := uint64(0)
	for i := range wide {
		n = n<<8 | uint64(s[at+i])
	}
	return n, at + wide, api.OK
}

// appendNumber lays a number's bytes behind others.
func appendNumber(b []byte, n uint64) []byte {
	for range lastPlace {
		if n < more {
			break
		}
		b = append(b, byte(n&low)|more)
		n >>= group
	}
	return append(b, byte(n))
}

// appendText lays a text's bytes behind others.
func appendText(b []byte, s string) []byte {
	return append(appendNumber(b, uint64(len(s))), s...)
}

// mayStand tells whether a number may have that byte at that place: each number has one form, of 64 bits at most.
func mayStand(c byte, place int) bool {
	if place > 0 && c == 0 {
		return false
	}
	return place < lastPlace || c <= lastByte
}

// isPlace tells whether a place is one of a text, its end too.
func isPlace(s string, at int) bool {
	return at >= 0 && at <= len(s)
}

// isWide tells whether a wide number may have so many bytes.
func isWide(wide int) bool {
	return wide >= 1 && wide <= mostWide
}
