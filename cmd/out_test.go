package cmd_test

import (
	"fmt"
	"math"
	"testing"

	"stowage/api"
	"stowage/cmd"
)

// outText is an outcome's text, as the chapter says it, whether it may be or not.
func outText(o api.Out) string {
	return number(uint64(o.Code)) + number(uint64(o.ID)) + text(o.Sum)
}

// goodOuts are outcomes that may be, from both sides of each bound.
func goodOuts() []api.Out {
	l := []api.Out{{}, {Code: 71, ID: 5, Sum: "a"}, {Code: 999, ID: 1 << 40, Sum: rep("\xff", 64)}}
	for _, code := range []int{0, 1, 127, 128, 172, 998, 999} {
		l = append(l, api.Out{Code: code, ID: 3, Sum: digits(1)})
	}
	for _, id := range []int{0, 1, 128, 1<<32 + 1, 1<<40 - 1, 1 << 40} {
		l = append(l, api.Out{Code: 3, ID: id, Sum: digits(1)})
	}
	for _, sum := range []string{"", "\x00", "x", "\xff\xfe", "Ä", rep("s", 63), rep("S", 64)} {
		l = append(l, api.Out{Code: 3, ID: 9, Sum: sum})
	}
	return l
}

// badOuts are outcomes that may not be.
func badOuts() []api.Out {
	var l []api.Out
	for _, code := range []int{-1, -999, 1000, 1001, 1<<32 + 1, math.MinInt, math.MaxInt} {
		l = append(l, api.Out{Code: code}, api.Out{Code: code, ID: 3, Sum: digits(1)})
	}
	for _, id := range []int{-1, 1<<40 + 1, 1 << 41, math.MinInt, math.MaxInt} {
		l = append(l, api.Out{ID: id}, api.Out{Code: 3, ID: id, Sum: digits(1)})
	}
	for _, n := range []int{65, 66, 128, 5000} {
		l = append(l, api.Out{Sum: rep("s", n)}, api.Out{Code: 3, ID: 9, Sum: rep("0", n)})
	}
	return l
}

// noOut asks that a text is no outcome's.
func noOut(t *testing.T, what, s string) {
	t.Helper()
	if o, e := cmd.DecodeOut(s); e != api.ErrForm || o != (api.Out{}) {
		t.Errorf("DecodeOut of %s (%.100q): %v, %v", what, s, o, e)
	}
}

// Promise 16.2: outcomes at each bound of Code, ID and Sum, as texts and back again.
func TestOut(t *testing.T) {
	for _, o := range goodOuts() {
		s, e := cmd.EncodeOut(o)
		if s != outText(o) || e != api.OK {
			t.Errorf("EncodeOut of %v: %q, %v", o, s, e)
		}
		if p, e := cmd.DecodeOut(s); p != o || e != api.OK {
			t.Errorf("DecodeOut of %q: %v, %v", s, p, e)
		}
	}
	for _, o := range badOuts() {
		if s, e := cmd.EncodeOut(o); s != "" || e != api.ErrArg {
			t.Errorf("EncodeOut of %v: %q, %v", o, s, e)
		}
		noOut(t, fmt.Sprintf("the text of %v", o), outText(o))
	}
	if s, e := cmd.EncodeOut(api.Out{Code: 300, ID: 5, Sum: "ab"}); s != "\xac\x02\x05\x02ab" || e != api.OK {
		t.Errorf("EncodeOut: %q, %v", s, e)
	}
}

// Promise 16.2: texts that are cut, have more behind them, or numbers and lengths beyond their bounds.
func TestOutText(t *testing.T) {
	for _, o := range goodOuts() {
		s := outText(o)
		for i := range len(s) {
			noOut(t, "a text that is cut", s[:i])
		}
		for _, behind := range []string{"\x00", "\x01", "x", s} {
			noOut(t, "a text with more behind it", s+behind)
		}
	}
	all := []string{number(3), number(9), text("sum")}
	for i, a := range all {
		for _, wrong := range append(beyond("ID"), longer(a), "") {
			changed := []string{all[0], all[1], all[2]}
			changed[i] = wrong
			noOut(t, fmt.Sprintf("%d as %q", i, wrong), changed[0]+changed[1]+changed[2])
		}
	}
	for _, size := range []uint64{4, 64, 65, 1 << 31, 1 << 32, 1 << 63, math.MaxUint64} {
		noOut(t, "a Sum that ends too early", number(3)+number(9)+number(size)+"sum")
	}
	noOut(t, "nothing", "")
}

// outForm asks that a text is refused, or is just what EncodeOut tells of what it says.
func outForm(t *testing.T, s string) {
	t.Helper()
	o, e := cmd.DecodeOut(s)
	if e != api.OK {
		noOut(t, "any bytes", s)
		return
	}
	if again, e := cmd.EncodeOut(o); again != s || e != api.OK {
		t.Errorf("DecodeOut of %q: %v", s, o)
	}
}

// Promise 16.2: a text has one form.
func TestOneOut(t *testing.T) {
	for _, o := range []api.Out{{}, {Code: 300, ID: 1 << 40, Sum: "ab"}, {Code: 9, ID: 130, Sum: digits(1)}} {
		s := outText(o)
		for i := range len(s) {
			for x := range 256 {
				outForm(t, s[:i]+string([]byte{byte(x)})+s[i+1:])
			}
			outForm(t, s[:i]+s[i+1:])
			outForm(t, s[:i]+"\x00"+s[i:])
		}
	}
	seen := map[string]api.Out{}
	for _, o := range goodOuts() {
		s, _ := cmd.EncodeOut(o)
		if old, is := seen[s]; is && old != o {
			t.Errorf("one text: %v, %v", old, o)
		}
		seen[s] = o
	}
}

// Any bytes are an outcome, in its one form, or none.
func FuzzDecodeOut(f *testing.F) {
	for _, o := range goodOuts() {
		f.Add(outText(o))
	}
	f.Fuzz(func(t *testing.T, s string) { outForm(t, s) })
}
