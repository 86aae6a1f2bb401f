package octet

import (
	"stowage/api"
)

// Reader goes over bytes from the front.
type Reader struct {
	s   string
	at  int
	err api.Errno
}

// NewReader is a reader at the front of bytes.
func NewReader(s string) *Reader {
	return &Reader{s: s}
}

// Err is a reader's error.
func (r *Reader) Err() api.Errno {
	if r == nil {
		return api.ErrArg
	}
	return r.err
}

// Fail gives a reader an error, if it has none.
func (r *Reader) Fail(e api.Errno) {
	if r.Err() == api.OK {
		r.err = e
	}
}

// At is how many bytes were taken.
func (r *Reader) At() int {
	if r == nil {
		return 0
	}
	return r.at
}

// End is the error, also that bytes are left.
func (r *Reader) End() api.Errno {
	if r.Err() == api.OK && r.at < len(r.s) {
		r.Fail(api.ErrLong)
	}
	return r.Err()
}

// Number takes a number.
func (r *Reader) Number(most uint64) uint64 {
	return r.number(func(n uint64) bool { return n <= most }, api.ErrLong)
}

// Int takes a number as an int.
func (r *Reader) Int(most int) int {
	fits := func(n uint64) bool { return most >= 0 && n <= uint64(most) }
	return int(r.number(fits, api.ErrLong))
}

// Text takes a text.
func (r *Reader) Text(most int) string {
	if r.Err() != api.OK {
		return ""
	}
	text, next, e := ReadText(r.s, r.at)
	if e == api.OK && len(text) > most {
		e = api.ErrLong
	}
	if e != api.OK {
		r.Fail(e)
		return ""
	}
	r.at = next
	return text
}

// Bool takes yes or no.
func (r *Reader) Bool() bool {
	return r.number(func(n uint64) bool { return n <= 1 }, api.ErrForm) == 1
}

// number takes a number that fits; unfit is the error of one that does not.
func (r *Reader) number(fits func(uint64) bool, unfit api.Errno) uint64 {
	if r.Err() != api.OK {
		return 0
	}
	n, next, e := ReadNumber(r.s, r.at)
	if e == api.OK && !fits(n) {
		e = unfit
	}
	if e != api.OK {
		r.Fail(e)
		return 0
	}
	r.at = next
	return n
}
