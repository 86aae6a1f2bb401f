package percent

import (
	"strings"

	"stowage/api"
)

// sixteens are the digits that escapes are written with.
const sixteens = "0123456789ABCDEF"

// escapeSize is how many bytes an escape has.
const escapeSize = 3

// isPlain tells whether a byte is written as it is.
func isPlain(c byte) bool {
	return 'a' <= c && c <= 'z' || 'A' <= c && c <= 'Z' || '0' <= c && c <= '9' || c == '-' || c == '.' || c == '_' || c == '~'
}

// isRaw tells whether a byte may stand raw somewhere.
func isRaw(c byte) bool {
	return c >= '!' && c <= '~' && c != '%' && c != '#'
}

// escaped are bytes as a text: those that may stay as they are, all others as escapes.
func escaped(s string, stays func(c byte) bool) string {
	var told strings.Builder
	for i := range len(s) {
		c := s[i]
		if stays(c) {
			told.WriteByte(c)
		} else {
			told.WriteByte('%')
			told.WriteByte(sixteens[c>>4])
			told.WriteByte(sixteens[c&15])
		}
	}
	return told.String()
}

// bytesOf are the bytes that a text says. What a raw byte says, and whether it may stand there, is told by a function.
func bytesOf(t string, raw func(c byte) (byte, bool)) (string, api.Errno) {
	var said strings.Builder
	next := 0 // the places ahead of it belong to an escape that was read
	for i := range len(t) {
		if i < next {
			continue
		}
		c, size, fits := byteAt(t[i:], raw)
		if !fits {
			return "", api.ErrForm
		}
		said.WriteByte(c)
		next = i + size
	}
	return said.String(), api.OK
}

// byteAt is the byte that a text says first, and how many bytes say it.
func byteAt(t string, raw func(c byte) (byte, bool)) (byte, int, bool) {
	if t[0] != '%' {
		c, fits := raw(t[0])
		return c, 1, fits
	}
	if len(t) < escapeSize {
		return 0, 0, false
	}
	high, low := sixteen(t[1]), sixteen(t[2])
	return byte(high<<4 | low), escapeSize, high >= 0 && low >= 0
}

// sixteen is the number of a digit, great or small; below 0, if it is none.
func sixteen(c byte) int {
	switch {
	case '0' <= c && c <= '9':
		return int(c - '0')
	case 'A' <= c && c <= 'F':
		return int(c-'A') + 10
	case 'a' <= c && c <= 'f':
		return int(c-'a') + 10
	}
	return -1
}
