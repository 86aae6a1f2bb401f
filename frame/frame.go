// Package frame is layer 2: see shared/doc/02-frame.md.
package frame

import (
	"strings"

	"stowage/api"
	"stowage/octet"
)

// A frame begins with its body's size and a sum, each so many bytes wide.
const (
	wide = 4
	head = 2 * wide
)

// polynomial is that of IEEE 802.3, turned round: the lowest bit goes first.
const polynomial = 0xEDB88320

// begun is the state of a sum ahead of all bytes.
const begun = ^uint32(0)

// Sum is bytes' sum.
func Sum(s string) uint32 {
	return ^shift(begun, s)
}

// Frame is a body's frame.
func Frame(body string) (string, api.Errno) {
	if len(body) > api.MaxFrame {
		return "", api.ErrLong
	}
	// Neither can fail: MaxFrame and a sum of 32 bits have room in four bytes.
	size, _ := octet.Wide(uint64(len(body)), wide)
	sum, _ := octet.Wide(uint64(sumOf(size, body)), wide)
	return size + sum + body, api.OK
}

// Unframe finds the frame that stands at a place.
func Unframe(s string, at int) (string, int, api.Errno) {
	size, behind, e := octet.ReadWide(s, at, wide)
	if e != api.OK {
		return "", 0, e
	}
	if size > api.MaxFrame {
		return "", 0, api.ErrLong
	}
	if head+int(size) > len(s)-at {
		return "", 0, api.ErrEnd
	}
	sum, from, _ := octet.ReadWide(s, behind, wide)
	to := from + int(size)
	body := s[from:to]
	if uint64(sumOf(s[at:behind], body)) != sum {
		return "", 0, api.ErrSum
	}
	return strings.Clone(body), to, api.OK
}

// Frames finds the frames from the front on.
func Frames(s string) ([]string, int) {
	var bodies []string
	at := 0
	for {
		body, next, e := Unframe(s, at)
		if e != api.OK {
			return bodies, at
		}
		bodies = append(bodies, body)
		at = next
	}
}

// sumOf is the sum of a frame's size and its body, which don't stand side by side there.
func sumOf(size, body string) uint32 {
	return ^shift(shift(begun, size), body)
}

// shift takes bytes into the state of a sum.
func shift(state uint32, s string) uint32 {
	for i := range len(s) {
		state ^= uint32(s[i])
		for range 8 {
			// A mask of the bit that falls out is quicker than a branch on it, which would be guessed wrong half of the time.
			mask := -(state & 1)
			state = state>>1 ^ polynomial&mask
		}
	}
	return state
}
