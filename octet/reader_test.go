package octet_test

import (
	"math"
	"strings"
	"testing"

	"stowage/api"
	"stowage/octet"
)

// stuck asks that a reader has an error which stays, and takes nothing behind it.
func stuck(t *testing.T, what string, r *octet.Reader, at int, e api.Errno) {
	t.Helper()
	for range 2 {
		if r.Err() != e || r.At() != at {
			t.Errorf("%s: %v at %d, not %v at %d", what, r.Err(), r.At(), e, at)
		}
		if r.Number(math.MaxUint64) != 0 || r.Int(math.MaxInt) != 0 || r.Text(math.MaxInt) != "" || r.Bool() {
			t.Errorf("%s: something is taken behind the error", what)
		}
		r.Int(-1)
		r.Fail(api.ErrClash)
		r.Fail(api.OK)
		if r.End() != e {
			t.Errorf("%s: End: %v, not %v", what, r.End(), e)
		}
	}
}

// Promise 1.3.
func TestReaderTakes(t *testing.T) {
	s := octet.Number(math.MaxUint64) + octet.Number(300) + octet.Text("ab") + octet.Text("") + "\x01\x00" + octet.Number(math.MaxInt64) + "\x00"
	r := octet.NewReader(s)
	if n := r.Number(math.MaxUint64); n != math.MaxUint64 || r.At() != 10 {
		t.Errorf("Number: %d, at %d", n, r.At())
	}
	if n := r.Int(300); n != 300 || r.At() != 12 {
		t.Errorf("Int: %d, at %d", n, r.At())
	}
	if x := r.Text(2); x != "ab" || r.At() != 15 {
		t.Errorf("Text: %q, at %d", x, r.At())
	}
	if x := r.Text(0); x != "" || r.At() != 16 || r.Err() != api.OK {
		t.Errorf("an empty Text: %q, at %d, %v", x, r.At(), r.Err())
	}
	if !r.Bool() || r.Bool() || r.At() != 18 || r.Err() != api.OK {
		t.Errorf("Bool: at %d, %v", r.At(), r.Err())
	}
	if n := r.Int(math.MaxInt); n != math.MaxInt || r.At() != 27 {
		t.Errorf("the greatest Int: %d, at %d", n, r.At())
	}
	if n := r.Number(0); n != 0 || r.At() != 28 || r.Err() != api.OK {
		t.Errorf("Number(0): %d, at %d, %v", n, r.At(), r.Err())
	}
	for range 2 {
		if r.End() != api.OK || r.Err() != api.OK || r.At() != len(s) {
			t.Errorf("End: %v, at %d", r.End(), r.At())
		}
	}
	r.Number(9)
	stuck(t, "behind the end", r, len(s), api.ErrEnd)
}

// Promise 1.3: each call's errors, with the bytes' own ones ahead of the bound's.
func TestReaderErrors(t *testing.T) {
	number := func(most uint64) func(*octet.Reader) { return func(r *octet.Reader) { _ = r.Number(most) } }
	whole := func(most int) func(*octet.Reader) { return func(r *octet.Reader) { _ = r.Int(most) } }
	text := func(most int) func(*octet.Reader) { return func(r *octet.Reader) { _ = r.Text(most) } }
	yes := func(r *octet.Reader) { _ = r.Bool() }
	great := octet.Number(math.MaxInt64 + 1)
	for _, c := range []struct {
		what string
		s    string
		take func(*octet.Reader)
		want api.Errno
	}{
		{"Number above", "\x0a", number(9), api.ErrLong},
		{"Number above 0", "\x01", number(0), api.ErrLong},
		{"Number, early end", "\x80", number(0), api.ErrEnd},
		{"Number, form", "\x80\x00", number(0), api.ErrForm},
		{"Int above", "\x0a", whole(9), api.ErrLong},
		{"Int above all", great, whole(math.MaxInt), api.ErrLong},
		{"Int below 0", "\x00", whole(-1), api.ErrLong},
		{"Int far below 0", "\x07", whole(math.MinInt), api.ErrLong},
		{"Int below 0 of the greatest", octet.Number(math.MaxUint64), whole(-1), api.ErrLong},
		{"Int below 0, early end", "", whole(-1), api.ErrEnd},
		{"Int below 0, form", "\x80\x00", whole(-1), api.ErrForm},
		{"Int, early end", "\xff", whole(9), api.ErrEnd},
		{"Text above", "\x03abc", text(2), api.ErrLong},
		{"Text below 0", "\x00", text(-1), api.ErrLong},
		{"Text far below 0", "\x00", text(math.MinInt), api.ErrLong},
		{"Text, early end", "\x03ab", text(2), api.ErrEnd},
		{"Text below 0, early end", "\x03ab", text(-1), api.ErrEnd},
		{"Text, form", "\x83\x00abc", text(2), api.ErrForm},
		{"Text, no number", "", text(2), api.ErrEnd},
		{"Bool above", "\x02", yes, api.ErrForm},
		{"Bool far above", great, yes, api.ErrForm},
		{"Bool, early end", "", yes, api.ErrEnd},
		{"Bool, form", "\x81\x00", yes, api.ErrForm},
	} {
		r := octet.NewReader("\x05" + c.s)
		r.Int(5)
		c.take(r)
		stuck(t, c.what, r, 1, c.want)
	}
}

// Promise 1.3: beside an error nothing is told.
func TestReaderAnswersZeroBesideAnError(t *testing.T) {
	if n := octet.NewReader("\x0a").Number(9); n != 0 {
		t.Errorf("Number: %d", n)
	}
	if n := octet.NewReader("\x0a").Int(9); n != 0 {
		t.Errorf("Int: %d", n)
	}
	if n := octet.NewReader("\x0a").Int(-1); n != 0 {
		t.Errorf("Int below 0: %d", n)
	}
	if x := octet.NewReader("\x02ab").Text(1); x != "" {
		t.Errorf("Text: %q", x)
	}
	if octet.NewReader("\x02").Bool() {
		t.Errorf("Bool")
	}
}

// Promise 1.3: an error that a Bool meets is not taken for its own.
func TestReaderBoolKeepsTheFirstError(t *testing.T) {
	r := octet.NewReader("\x09\x01")
	r.Number(8)
	if r.Bool() {
		t.Errorf("Bool behind an error")
	}
	stuck(t, "Bool behind ErrLong", r, 0, api.ErrLong)
}

// Promise 1.3.
func TestReaderFail(t *testing.T) {
	r := octet.NewReader("\x07\x08")
	r.Fail(api.OK)
	if r.Err() != api.OK || r.Int(9) != 7 || r.At() != 1 {
		t.Errorf("Fail(OK): %v, at %d", r.Err(), r.At())
	}
	r.Fail(api.ErrPart)
	r.Fail(api.ErrSmall)
	stuck(t, "Fail", r, 1, api.ErrPart)
	r = octet.NewReader("")
	r.Fail(-5)
	stuck(t, "Fail with a number of no error", r, 0, -5)
}

// Promise 1.3.
func TestReaderEnd(t *testing.T) {
	r := octet.NewReader("")
	if r.End() != api.OK || r.Err() != api.OK || r.At() != 0 {
		t.Errorf("End of no bytes: %v, at %d", r.Err(), r.At())
	}
	r = octet.NewReader("\x01\x02")
	r.Int(1)
	if e := r.End(); e != api.ErrLong {
		t.Errorf("End with a byte left: %v", e)
	}
	stuck(t, "End with a byte left", r, 1, api.ErrLong)
	r = octet.NewReader("\x80")
	r.Int(1)
	stuck(t, "End behind an error", r, 0, api.ErrEnd)
}

// Promise 1.3, and rule R1 for a reader that no call made.
func TestReaderNil(t *testing.T) {
	var r *octet.Reader
	stuck(t, "a nil reader", r, 0, api.ErrArg)
	for _, s := range []string{"", "\x00", strings.Repeat("\xff", 99)} {
		if octet.NewReader(s) == nil {
			t.Errorf("NewReader(%q) is nil", s)
		}
	}
	var made octet.Reader
	if made.Err() != api.OK || made.At() != 0 || made.End() != api.OK {
		t.Errorf("a reader of no bytes: %v, at %d", made.Err(), made.At())
	}
	made.Text(9)
	stuck(t, "a reader of no bytes", &made, 0, api.ErrEnd)
}
