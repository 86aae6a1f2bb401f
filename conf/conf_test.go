package conf_test

import (
	"fmt"
	"math"
	"math/bits"
	"math/rand"
	"slices"
	"strings"
	"testing"

	"stowage/api"
	"stowage/conf"
	"stowage/octet"
)

// of is the configuration whose members are the bits of a number.
func of(set int) []int {
	var l []int
	for n := range 7 {
		if set&(1<<n) != 0 {
			l = append(l, n)
		}
	}
	return l
}

// every is each configuration that may be, by its bits.
func every() []int {
	var l []int
	for set := 1; set < 128; set++ {
		l = append(l, set)
	}
	return l
}

// bad are lists that are no configurations that may be.
func bad() [][]int {
	return [][]int{
		nil, {}, {-1}, {7}, {math.MinInt}, {math.MaxInt}, {0, 0}, {3, 3}, {1, 0}, {0, 2, 1}, {0, 1, 1}, {-1, 0}, {0, 7}, {5, 6, 7}, {0, 1, 2, 3, 4, 5, 6, 7}, {6, 5, 4, 3, 2, 1, 0}, {0, 1, 2, 3, 4, 5, 6, 6}, {0, 0, 1, 2, 3, 4, 5, 6}, {0, 3, math.MaxInt}, {math.MinInt, 0},
	}
}

// same asks that two lists are the same.
func same(t *testing.T, what string, got, want []int) {
	t.Helper()
	if !slices.Equal(got, want) {
		t.Errorf("%s: %v, not %v", what, got, want)
	}
}

// fails asks that a call answers an error, and no list beside it.
func fails(t *testing.T, what string, l []int, e, want api.Errno) {
	t.Helper()
	if len(l) != 0 || e != want {
		t.Errorf("%s: %v, %v, not %v", what, l, e, want)
	}
}

// The example of the chapter.
func TestExample(t *testing.T) {
	l := []int{0, 2, 5}
	if conf.Majority(l) != 2 || conf.Enough(l, []int{5, 5, 1}) || conf.Reached(l, []int{7, 9, 4, 9, 9, 1}) != 4 {
		t.Errorf("the example: %d, %v, %d", conf.Majority(l), conf.Enough(l, []int{5, 5, 1}), conf.Reached(l, []int{7, 9, 4, 9, 9, 1}))
	}
}

// Promise 9.1: all configurations that may be, and ones that may not.
func TestCheck(t *testing.T) {
	for _, set := range every() {
		if e := conf.Check(of(set)); e != api.OK {
			t.Errorf("Check of %v: %v", of(set), e)
		}
	}
	for _, l := range bad() {
		if e := conf.Check(l); e != api.ErrConf {
			t.Errorf("Check of %v: %v", l, e)
		}
	}
	for a := -1; a < 9; a++ {
		for b := -1; b < 9; b++ {
			want := api.ErrConf
			if 0 <= a && a < b && b < 7 {
				want = api.OK
			}
			if e := conf.Check([]int{a, b}); e != want {
				t.Errorf("Check of %d, %d: %v", a, b, e)
			}
		}
	}
}

// Promise 9.1: a list that may not be has what it has.
func TestHas(t *testing.T) {
	for _, set := range every() {
		for n := -1; n < 8; n++ {
			if got := conf.Has(of(set), n); got != (n >= 0 && set&(1<<n) != 0) {
				t.Errorf("Has of %v, %d: %v", of(set), n, got)
			}
		}
	}
	if !conf.Has([]int{9, 3, 3}, 3) || !conf.Has([]int{9, 3}, 9) || !conf.Has([]int{-4}, -4) || conf.Has([]int{9, 3}, 4) || conf.Has(nil, 0) {
		t.Errorf("Has of a list that is no configuration")
	}
}

// Promise 9.1: a majority of 1 to 7, and of what may not be.
func TestMajority(t *testing.T) {
	for i, want := range []int{1, 2, 2, 3, 3, 4, 4} {
		if got := conf.Majority(of(1<<(i+1) - 1)); got != want {
			t.Errorf("Majority of %d: %d, not %d", i+1, got, want)
		}
	}
	for _, set := range every() {
		if got := conf.Majority(of(set)); 2*got <= len(of(set)) || 2*(got-1) > len(of(set)) {
			t.Errorf("Majority of %v: %d", of(set), got)
		}
	}
	for _, l := range bad() {
		if got := conf.Majority(l); got != 0 {
			t.Errorf("Majority of %v: %d", l, got)
		}
	}
}

// Promise 9.1: each set of nodes beside each configuration; in other orders, more than once, and with such that are no nodes.
func TestEnough(t *testing.T) {
	r := rand.New(rand.NewSource(1))
	for _, set := range every() {
		for who := range 128 {
			want := 2*bits.OnesCount(uint(set&who)) > bits.OnesCount(uint(set))
			l := of(who)
			for range 2 {
				if got := conf.Enough(of(set), l); got != want {
					t.Fatalf("Enough of %v, %v: %v", of(set), l, got)
				}
				l = append(append(l, of(who)...), -1, 7, math.MaxInt, math.MinInt)
				r.Shuffle(len(l), func(i, j int) { l[i], l[j] = l[j], l[i] })
			}
		}
	}
	for _, l := range bad() {
		if conf.Enough(l, []int{0, 1, 2, 3, 4, 5, 6, 7, -1}) || conf.Enough(l, nil) || conf.Enough(l, l) {
			t.Errorf("Enough of %v", l)
		}
	}
}

// Promise 9.2: each node beside each configuration, and such that are none.
func TestAddDrop(t *testing.T) {
	for _, set := range every() {
		l := of(set)
		for n := range 7 {
			with, e := conf.Add(l, n)
			without, d := conf.Drop(l, n)
			what := fmt.Sprintf("of %v, %d", l, n)
			if set&(1<<n) == 0 {
				fails(t, "Drop "+what, without, d, api.ErrNone)
				same(t, "Add "+what, with, of(set|1<<n))
				if e != api.OK {
					t.Errorf("Add %s: %v", what, e)
				}
				continue
			}
			fails(t, "Add "+what, with, e, api.ErrThere)
			if set == 1<<n {
				fails(t, "Drop "+what, without, d, api.ErrArg)
				continue
			}
			same(t, "Drop "+what, without, of(set&^(1<<n)))
			if d != api.OK {
				t.Errorf("Drop %s: %v", what, d)
			}
		}
		for _, n := range []int{-1, 7, 8, math.MinInt, math.MaxInt} {
			with, e := conf.Add(l, n)
			fails(t, "Add of no node", with, e, api.ErrArg)
			without, e := conf.Drop(l, n)
			fails(t, "Drop of no node", without, e, api.ErrNone)
		}
	}
}

// Promise 9.2: that a configuration may not be is told ahead of what is wrong with the node.
func TestAddDropWrong(t *testing.T) {
	for _, l := range bad() {
		for _, n := range append([]int{-1, 0, 3, 6, 7, math.MinInt, math.MaxInt}, l...) {
			with, e := conf.Add(l, n)
			fails(t, fmt.Sprintf("Add of %v, %d", l, n), with, e, api.ErrConf)
			without, e := conf.Drop(l, n)
			fails(t, fmt.Sprintf("Drop of %v, %d", l, n), without, e, api.ErrConf)
		}
	}
}

// Promise 9.2: each two configurations; ones that may not be.
func TestNear(t *testing.T) {
	for _, a := range every() {
		for _, b := range every() {
			want := bits.OnesCount(uint(a^b)) == 1
			if got := conf.Near(of(a), of(b)); got != want {
				t.Fatalf("Near of %v, %v: %v", of(a), of(b), got)
			}
		}
	}
	for _, l := range bad() {
		for _, other := range append(bad(), []int{0}, []int{0, 1}, []int{3}, []int{0, 1, 2, 3, 4, 5, 6}, []int{0, 2}, []int{5, 6}) {
			if conf.Near(l, other) || conf.Near(other, l) {
				t.Errorf("Near of %v, %v", l, other)
			}
		}
	}
}

// textOf is the text that the chapter says.
func textOf(l []int) string {
	s := octet.Number(uint64(len(l)))
	for _, n := range l {
		s += octet.Number(uint64(n))
	}
	return s
}

// Promise 9.2: texts, and back again.
func TestText(t *testing.T) {
	for _, set := range every() {
		s, e := conf.Encode(of(set))
		if s != textOf(of(set)) || e != api.OK {
			t.Errorf("Encode of %v: %q, %v", of(set), s, e)
		}
		l, e := conf.Decode(s)
		same(t, fmt.Sprintf("Decode of %q", s), l, of(set))
		if e != api.OK {
			t.Errorf("Decode of %q: %v", s, e)
		}
		for i := range len(s) {
			l, e := conf.Decode(s[:i])
			fails(t, fmt.Sprintf("Decode of %q", s[:i]), l, e, api.ErrForm)
		}
		for _, behind := range []string{"\x00", "\x06", "x", s} {
			l, e := conf.Decode(s + behind)
			fails(t, fmt.Sprintf("Decode of %q", s+behind), l, e, api.ErrForm)
		}
	}
	for _, l := range bad() {
		if s, e := conf.Encode(l); s != "" || e != api.ErrConf {
			t.Errorf("Encode of %v: %q, %v", l, s, e)
		}
		got, e := conf.Decode(textOf(l))
		fails(t, fmt.Sprintf("Decode of %v", l), got, e, api.ErrForm)
	}
	for _, s := range []string{"\x81\x00\x00", "\x01\x80\x00", "\x80", "\xff\xff\xff\xff\xff\xff\xff\xff\xff\x01", "\x01\xff\xff\xff\xff\xff\xff\xff\xff\xff\x01", strings.Repeat("\x00", 100), strings.Repeat("\x07", 100)} {
		l, e := conf.Decode(s)
		fails(t, fmt.Sprintf("Decode of %q", s), l, e, api.ErrForm)
	}
}

// Promise 9.2: of all short texts just those that Encode makes are taken.
func TestOneText(t *testing.T) {
	good := map[string]bool{}
	for _, set := range every() {
		good[textOf(of(set))] = true
	}
	for a := range 256 {
		for b := range 256 {
			for c := -1; c < 9; c++ {
				s := string([]byte{byte(a), byte(b)})
				if c >= 0 {
					s += string([]byte{byte(c)})
				}
				if _, e := conf.Decode(s); (e == api.OK) != good[s] {
					t.Fatalf("Decode of %q: %v", s, e)
				}
			}
		}
	}
}

// says is an entry with a configuration.
func says(l ...int) api.Entry {
	return api.Entry{Term: 1, Kind: api.EntryConf, Data: textOf(l)}
}

// Promise 9.3: the last entry that says one; other kinds, and Data that is no text, are passed over.
func TestLatest(t *testing.T) {
	data := says(3)
	data.Kind = api.EntryData
	noop := says(4)
	noop.Kind = api.EntryNoop
	other := says(5)
	other.Kind = 3
	below := says(5)
	below.Kind = -2
	broken := api.Entry{Kind: api.EntryConf, Data: textOf([]int{6}) + "x"}
	for _, c := range []struct {
		l    []api.Entry
		want []int
		at   int
	}{
		{nil, []int{0, 1}, 0},
		{[]api.Entry{}, []int{0, 1}, 0},
		{[]api.Entry{data, noop, other, below, broken, {Kind: api.EntryConf}}, []int{0, 1}, 0},
		{[]api.Entry{says(2)}, []int{2}, 1},
		{[]api.Entry{says(2), says(2, 3)}, []int{2, 3}, 2},
		{[]api.Entry{says(2, 3), says(2)}, []int{2}, 2},
		{[]api.Entry{data, says(2), noop}, []int{2}, 2},
		{[]api.Entry{says(1), data, says(2, 6), noop, broken, data, other, below}, []int{2, 6}, 3},
		{[]api.Entry{says(1), says(), says(7), says(2, 1), says(0, 0)}, []int{1}, 1},
		{[]api.Entry{data, data, data, says(0, 1, 2, 3, 4, 5, 6)}, []int{0, 1, 2, 3, 4, 5, 6}, 4},
	} {
		got, at := conf.Latest([]int{0, 1}, c.l)
		same(t, fmt.Sprintf("Latest of %v", c.l), got, c.want)
		if at != c.at {
			t.Errorf("Latest of %v: at %d, not %d", c.l, at, c.at)
		}
	}
	// The base is told as it is, whether it may be or not.
	for _, base := range bad() {
		got, at := conf.Latest(base, []api.Entry{data, broken})
		same(t, "Latest of a base that may not be", got, base)
		if at != 0 {
			t.Errorf("Latest of %v: at %d", base, at)
		}
		if got, at := conf.Latest(base, []api.Entry{says(4)}); !slices.Equal(got, []int{4}) || at != 1 {
			t.Errorf("Latest of %v: %v, %d", base, got, at)
		}
	}
}

// reached is the words of the promise: the greatest number among the values that enough members have.
func reached(l []int, values []int) int {
	best, any := 0, false
	for _, n := range l {
		v := valueOf(values, n)
		var who []int
		for _, m := range l {
			if valueOf(values, m) >= v {
				who = append(who, m)
			}
		}
		if 2*len(who) > len(l) && (!any || v > best) {
			best, any = v, true
		}
	}
	return best
}

func valueOf(values []int, n int) int {
	if n < len(values) {
		return values[n]
	}
	return 0
}

// Promise 9.3: drawn values, for fewer nodes than members too, and equal ones, held against the words.
func TestReached(t *testing.T) {
	r := rand.New(rand.NewSource(2))
	for _, set := range every() {
		for range 60 {
			values := make([]int, r.Intn(10))
			for i := range values {
				values[i] = r.Intn(1 + r.Intn(6))
			}
			if got, want := conf.Reached(of(set), values), reached(of(set), values); got != want {
				t.Fatalf("Reached of %v, %v: %d, not %d", of(set), values, got, want)
			}
		}
	}
	for _, c := range []struct {
		l, values []int
		want      int
	}{
		{[]int{0}, []int{5}, 5}, {[]int{0}, nil, 0}, {[]int{6}, []int{9, 9, 9, 9, 9, 9}, 0}, {[]int{6}, []int{9, 9, 9, 9, 9, 9, 3}, 3},
		{[]int{0, 1}, []int{5, 4}, 4}, {[]int{0, 1}, []int{5}, 0}, {[]int{0, 1, 2}, []int{5, 5, 5}, 5}, {[]int{0, 1, 2}, []int{9, 0, 0}, 0},
		{[]int{0, 1, 2, 3}, []int{1, 2, 3, 4}, 2}, {[]int{0, 1, 2, 3, 4, 5, 6}, []int{7, 6, 5, 4, 3, 2, 1}, 4}, {[]int{0, 1, 2, 3, 4, 5, 6}, []int{1, 1, 1, 1, 1, 1, 1, 9, 9, 9, 9}, 1},
		{[]int{0, 1, 2}, []int{math.MaxInt, math.MinInt, -3}, -3}, {[]int{1, 2}, []int{0, math.MaxInt, math.MaxInt}, math.MaxInt},
	} {
		if got := conf.Reached(c.l, c.values); got != c.want {
			t.Errorf("Reached of %v, %v: %d, not %d", c.l, c.values, got, c.want)
		}
	}
	for _, l := range bad() {
		if got := conf.Reached(l, []int{3, 3, 3, 3, 3, 3, 3, 3}); got != 0 {
			t.Errorf("Reached of %v: %d", l, got)
		}
	}
}

// Promise 9.4: majorities of neighbours, and of one configuration, meet.
func TestMajoritiesMeet(t *testing.T) {
	for _, a := range every() {
		for _, b := range every() {
			if a != b && !conf.Near(of(a), of(b)) {
				continue
			}
			for x := range 128 {
				if x&^a != 0 || !conf.Enough(of(a), of(x)) {
					continue
				}
				for y := range 128 {
					if y&^b == 0 && x&y == 0 && conf.Enough(of(b), of(y)) {
						t.Fatalf("%v of %v and %v of %v do not meet", of(x), of(a), of(y), of(b))
					}
				}
			}
		}
	}
}

// Promise 9.4: from each configuration there is a way to each other one.
func TestWaysLead(t *testing.T) {
	for _, a := range every() {
		for _, b := range every() {
			l := of(a)
			step := func(next []int, e api.Errno) {
				if e != api.OK || !conf.Near(l, next) {
					t.Fatalf("from %v to %v: %v, %v behind %v", of(a), of(b), next, e, l)
				}
				l = next
			}
			for n := range 7 {
				if b&^a&(1<<n) != 0 {
					step(conf.Add(l, n))
				}
			}
			for n := range 7 {
				if a&^b&(1<<n) != 0 {
					step(conf.Drop(l, n))
				}
			}
			same(t, "the end of the way", l, of(b))
		}
	}
}

// Rule R3: what is handed in stays as it is, also behind its end, and what is answered is of its own.
func TestSharesNothing(t *testing.T) {
	room := []int{0, 2, 4, 99, 99}
	l := room[:3]
	who := []int{4, 2, 4}
	values := []int{9, 1, 8, 2, 7}
	with, _ := conf.Add(l, 1)
	without, _ := conf.Drop(l, 2)
	entries := []api.Entry{{Kind: api.EntryData}}
	latest, _ := conf.Latest(l, entries)
	conf.Enough(l, who)
	conf.Near(l, with)
	conf.Reached(l, values)
	for _, got := range [][]int{with, without, latest} {
		for i := range got {
			got[i] = 55
		}
		_ = append(got, 66)
	}
	same(t, "the configuration", room, []int{0, 2, 4, 99, 99})
	same(t, "who", who, []int{4, 2, 4})
	same(t, "values", values, []int{9, 1, 8, 2, 7})
	one, _ := conf.Decode("\x02\x01\x03")
	two, _ := conf.Decode("\x02\x01\x03")
	one[0] = 6
	same(t, "Decode", two, []int{1, 3})
}

// Any bytes are a configuration that may be, in its one form, or none.
func FuzzDecode(f *testing.F) {
	for _, set := range []int{1, 5, 127} {
		f.Add(textOf(of(set)))
	}
	f.Add("\x81\x00\x00")
	f.Fuzz(func(t *testing.T, s string) {
		l, e := conf.Decode(s)
		if e != api.OK {
			fails(t, "Decode", l, e, api.ErrForm)
			return
		}
		if again, e := conf.Encode(l); again != s || e != api.OK || conf.Check(l) != api.OK {
			t.Errorf("Decode of %q: %v", s, l)
		}
	})
}
