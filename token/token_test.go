package token_test

import (
	"fmt"
	"math"
	"math/rand"
	"runtime"
	"slices"
	"strings"
	"testing"

	"stowage/api"
	"stowage/token"
)

// The example of the chapter.
func TestExample(t *testing.T) {
	l, e := token.Note(nil, api.Held{Token: "t", Sum: digits(1), Out: "done", At: 3})
	if e != api.OK {
		t.Fatalf("Note: %v", e)
	}
	looks(t, "its sum", l, "t", digits(1), api.TokenKnown, "done")
	looks(t, "another one", l, "t", digits(2), api.TokenClash, "")
	l, went := token.Expire(l, 3)
	if went != 1 {
		t.Errorf("Expire: %d", went)
	}
	looks(t, "behind Expire", l, "t", digits(1), api.TokenFresh, "")
}

// Promise 15.1: a token that is kept, with its sum and with another one; one that is not kept.
func TestLook(t *testing.T) {
	for _, l := range tables() {
		for i, h := range l {
			looks(t, "kept", l, h.Token, h.Sum, api.TokenKnown, h.Out)
			others := append([]string{digits(999999), h.Sum[:63], h.Sum + "0", strings.ToUpper(h.Sum) + "A", l[(i+1)%len(l)].Sum + " "}, notDigits()...)
			for _, sum := range others {
				looks(t, "kept with another sum", l, h.Token, sum, api.TokenClash, "")
			}
		}
		for _, name := range append([]string{"t000", "t002", "t064", "t128", "t9", "aaa", "zz", "nobody"}, notTokens()...) {
			for _, sum := range []string{zeros(), digits(1), "", "x"} {
				looks(t, "not kept, in "+short(l), l, name, sum, api.TokenFresh, "")
			}
		}
	}
	// Another token's sum is not this one's.
	l := named("a", "b", "c")
	looks(t, "another token's sum", l, "a", l[1].Sum, api.TokenClash, "")
	looks(t, "another token's sum", l, "c", l[1].Sum, api.TokenClash, "")
	// What was answered may be nothing, and is known all the same.
	looks(t, "an empty Out", []api.Held{{Token: "a", Sum: zeros(), At: 1}}, "a", zeros(), api.TokenKnown, "")
}

// Promise 15.1: a list that is no table is told at each call.
func TestNoTable(t *testing.T) {
	for _, c := range noTables() {
		what := "of " + short(c)
		for _, name := range []string{c[0].Token, c[len(c)-1].Token, "fresh", "t128", ""} {
			for _, sum := range []string{c[0].Sum, c[len(c)-1].Sum, zeros()} {
				looks(t, what, c, name, sum, api.TokenClash, "")
			}
		}
		for _, h := range []api.Held{held("fresh", 3), held("t001", 3), c[0], c[len(c)-1], {}} {
			l, e := token.Note(c, h)
			noTable(t, "Note "+what, l, e, api.ErrArg)
		}
		for _, upto := range []int{math.MinInt, 0, 3, 1 << 40, math.MaxInt} {
			expires(t, what, c, upto, 0)
		}
		if s, e := token.Encode(c); s != "" || e != api.ErrArg {
			t.Errorf("Encode %s: %.80q, %v", what, s, e)
		}
	}
}

// Promise 15.2: kept tokens that may be, from both sides of each bound, into an empty table.
func TestNoteBounds(t *testing.T) {
	for _, h := range good() {
		for _, empty := range [][]api.Held{nil, {}} {
			l, e := token.Note(empty, h)
			isTable(t, "Note", l, e, h)
		}
	}
	for _, h := range bad() {
		for _, c := range [][]api.Held{nil, named("a"), named("m"), named("a", "m", "z"), rising(63), rising(64)} {
			l, e := token.Note(c, h)
			noTable(t, "Note of "+short([]api.Held{h}), l, e, api.ErrArg)
		}
	}
}

// Promise 15.2: each byte in a Token and in a Sum.
func TestNoteBytes(t *testing.T) {
	for c := range 256 {
		name := with(func(h *api.Held) { h.Token = "a" + string([]byte{byte(c)}) + "b" })
		sum := with(func(h *api.Held) { h.Sum = rep("0", 40) + string([]byte{byte(c)}) + rep("f", 23) })
		want := func(is bool) api.Errno {
			if is {
				return api.OK
			}
			return api.ErrArg
		}
		if _, e := token.Note(nil, name); e != want(c >= '!' && c <= '~') {
			t.Errorf("Note of the Token %q: %v", name.Token, e)
		}
		if _, e := token.Note(nil, sum); e != want(c >= '0' && c <= '9' || c >= 'a' && c <= 'f') {
			t.Errorf("Note of the Sum %q: %v", sum.Sum, e)
		}
	}
}

// Promise 15.2: a token at each place of a table; none is noted twice.
func TestNote(t *testing.T) {
	for _, c := range [][]api.Held{rising(1), rising(2), rising(3), rising(10), rising(63)} {
		for i := range 2*len(c) + 1 {
			h := held(fmt.Sprintf("t%03d", i), 99)
			l, e := token.Note(c, h)
			if i%2 == 1 {
				noTable(t, "Note of what is kept", l, e, api.ErrThere)
				continue
			}
			want := slices.Concat(c[:i/2], []api.Held{h}, c[i/2:])
			isTable(t, fmt.Sprintf("Note at %d of %d", i/2, len(c)), l, e, want...)
		}
	}
	// The order is that of bytes.
	var l []api.Held
	for i, name := range []string{"a", "B", "~", "!", "aa", "A", "9", "10"} {
		l, _ = token.Note(l, held(name, i+1))
	}
	isTable(t, "in the order of bytes", l, api.OK, held("!", 4), held("10", 8), held("9", 7), held("A", 6), held("B", 2), held("a", 1), held("aa", 5), held("~", 3))
}

// Promise 15.2: which of the errors is told: a token that may not be, one that is kept, one more than there may be.
func TestNoteErrors(t *testing.T) {
	full := rising(64)
	for i, h := range full {
		// With its sum, with another one, at another index: it is kept.
		for _, again := range []api.Held{h, {Token: h.Token, Sum: digits(77), Out: h.Out, At: h.At}, {Token: h.Token, Sum: h.Sum, Out: "other", At: 1 << 40}} {
			l, e := token.Note(full, again)
			noTable(t, fmt.Sprintf("Note of what is kept at %d, of a full table", i), l, e, api.ErrThere)
			l, e = token.Note(full[i:], again)
			noTable(t, fmt.Sprintf("Note of what is kept at %d", i), l, e, api.ErrThere)
		}
		for _, wrong := range []api.Held{{Token: h.Token}, {Token: h.Token, Sum: h.Sum}, {Token: h.Token, Sum: h.Sum, Out: rep("o", 4097), At: 1}} {
			l, e := token.Note(full, wrong)
			noTable(t, "Note of what is kept and may not be", l, e, api.ErrArg)
		}
	}
	for _, name := range []string{"t000", "t002", "t064", "t126", "t128", "a", "z"} {
		l, e := token.Note(full, held(name, 3))
		noTable(t, "Note into a full table", l, e, api.ErrMany)
		l, e = token.Note(full[1:], held(name, 3))
		if e != api.OK || len(l) != 64 {
			t.Errorf("Note of the last one that may be: %v, %d", e, len(l))
		}
		l, e = token.Note(l, held("last", 3))
		noTable(t, "Note of one more", l, e, api.ErrMany)
	}
}

// Promise 15.2: Expire below, at and above an At, of none and of all.
func TestExpire(t *testing.T) {
	a, b, c, d := held("a", 5), held("b", 9), held("c", 5), held("d", 1<<40)
	l := []api.Held{a, b, c, d}
	for _, upto := range []int{math.MinInt, -1, 0, 1, 4} {
		expires(t, "none", l, upto, 0, a, b, c, d)
	}
	for _, upto := range []int{5, 6, 8} {
		expires(t, "two", l, upto, 2, b, d)
	}
	for _, upto := range []int{9, 10, 1 << 32, 1<<40 - 1} {
		expires(t, "three", l, upto, 3, d)
	}
	for _, upto := range []int{1 << 40, 1<<40 + 1, math.MaxInt} {
		expires(t, "all", l, upto, 4)
	}
	for _, upto := range []int{math.MinInt, 0, math.MaxInt} {
		expires(t, "of nothing", nil, upto, 0)
		expires(t, "of nothing", []api.Held{}, upto, 0)
	}
	full := rising(64)
	for upto := range 70 {
		went := min(upto, 64)
		expires(t, "of a full table", full, upto, went, full[went:]...)
	}
	for _, h := range good() {
		expires(t, "below", []api.Held{h}, h.At-1, 0, h)
		expires(t, "at", []api.Held{h}, h.At, 1)
		expires(t, "above", []api.Held{h}, h.At+1, 1)
	}
}

// Promise 15.3: drawn orders of Note and Expire, held against what was noted and did not go.
func TestAny(t *testing.T) {
	full, there, known, went := 0, 0, 0, 0
	for seed := range 30 {
		r := rand.New(rand.NewSource(int64(seed)))
		var l []api.Held
		kept := map[string]api.Held{}
		many := 20 + r.Intn(200)
		for at := 1; at <= 200; at++ {
			what := fmt.Sprintf("seed %d, %d", seed, at)
			h := api.Held{Token: fmt.Sprintf("%x", r.Intn(many)), Sum: digits(r.Intn(3)), Out: rep("o", r.Intn(9)), At: at}
			old, is := kept[h.Token]
			switch {
			case is && old.Sum == h.Sum:
				looks(t, what, l, h.Token, h.Sum, api.TokenKnown, old.Out)
				known++
			case is:
				looks(t, what, l, h.Token, h.Sum, api.TokenClash, "")
			default:
				looks(t, what, l, h.Token, h.Sum, api.TokenFresh, "")
			}
			got, e := token.Note(l, h)
			switch {
			case is:
				noTable(t, what, got, e, api.ErrThere)
				there++
			case len(kept) == 64:
				noTable(t, what, got, e, api.ErrMany)
				full++
			default:
				l, kept[h.Token] = got, h
			}
			if r.Intn(40) == 0 {
				upto := at - r.Intn(80)
				var n int
				l, n = token.Expire(l, upto)
				went += n
				for name, h := range kept {
					if h.At <= upto {
						delete(kept, name)
						n--
					}
				}
				if n != 0 {
					t.Errorf("%s: %d more went than should", what, n)
				}
			}
			var want []api.Held
			for _, h := range kept {
				want = append(want, h)
			}
			slices.SortFunc(want, func(a, b api.Held) int { return strings.Compare(a.Token, b.Token) })
			isTable(t, what, l, api.OK, want...)
			if t.Failed() {
				return
			}
		}
	}
	if full < 100 || there < 100 || known < 100 || went < 100 {
		t.Errorf("too little happened: %d full, %d there, %d known, %d went", full, there, known, went)
	}
}

// roomy is a list with others behind its end, which no call may touch.
func roomy(l []api.Held) []api.Held {
	return append(slices.Clone(l), held("x", 77), held("y", 76), held("z", 75))[:len(l)]
}

// untouched asks that a list is as it was made, also behind its end.
func untouched(t *testing.T, what string, l, made []api.Held) {
	t.Helper()
	behind := l[len(l) : len(l)+3]
	if !slices.Equal(l, made) || !slices.Equal(behind, []api.Held{held("x", 77), held("y", 76), held("z", 75)}) {
		t.Errorf("%s: what was handed in is %s, and behind it %s", what, short(l), short(behind))
	}
}

// Rule R3: what is handed in is not changed, and what is answered is of its own memory, list by list and text by text.
func TestSharesNothing(t *testing.T) {
	made := named("bb", "dd", "ff", "hh")
	l := roomy(made)
	var all []span
	var answers []any // what was answered stays, so that its memory is not another one's later on
	take := func(what string, answer any, own ...span) {
		t.Helper()
		answers = append(answers, answer)
		all = append(all, own...)
		disjoint(t, what, all)
		untouched(t, what, l, made)
	}
	take("what is handed in", l, spans(l)...)
	for range 2 {
		for _, name := range []string{"aa", "cc", "ee", "gg", "ii"} {
			h := roomy([]api.Held{held(name, 9)})
			take("what is handed in", h, spans(h)...)
			got, _ := token.Note(l, h[0])
			take("Note of "+name, got, spans(got)...)
			untouched(t, "Note", h, []api.Held{held(name, 9)})
		}
		for upto := range 6 {
			got, _ := token.Expire(l, upto)
			take(fmt.Sprintf("Expire(%d)", upto), got, spans(got)...)
		}
		for _, h := range l {
			_, out := token.Look(l, h.Token, h.Sum)
			take("Look", out, textSpan(out))
		}
		s, _ := token.Encode(l)
		take("Encode", s, textSpan(s))
		got, _ := token.Decode(s)
		take("Decode", got, spans(got)...)
	}
	if len(all) < 200 {
		t.Errorf("%d stretches of memory", len(all))
	}
	runtime.KeepAlive(answers)
}

// Rule R3: calls that are refused change nothing, either.
func TestRefusedChangesNothing(t *testing.T) {
	for _, made := range [][]api.Held{rising(64), named("c", "b", "a"), named("a", "b", "b"), rising(65)} {
		l := roomy(made)
		token.Look(l, "b", "x")
		token.Note(l, held("b", 3))
		token.Note(l, held("t001", 3))
		token.Note(l, api.Held{})
		token.Expire(l, 2)
		token.Encode(l)
		untouched(t, short(made), l, made)
	}
}
