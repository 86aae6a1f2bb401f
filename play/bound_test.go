package play_test

import (
	"fmt"
	"slices"
	"strings"
	"testing"
	"unsafe"

	"stowage/play"
)

// Bounds: a play has at most 65536 bytes, else it tells long alone.
func TestLong(t *testing.T) {
	for _, c := range []struct{ ahead, each, tells, one string }{
		{"", "\n", "", ""}, {"", "lead\n", "", "none\n"}, {"", "x", "what\n", ""}, {"", " ", "what\n", ""}, {"", "x\n", "", "what\n"}, {"new 1\n", "node 0\n", "ok\n", "up\n"}, {"new 1\nx\n", "\n", "ok\nwhat\n", ""},
	} {
		n := (65536 - len(c.ahead)) / len(c.each)
		fits := c.ahead + rep(c.each, n)
		tells(t, fits, c.tells+rep(c.one, n))
		for len(fits) < 65536 {
			fits = "\n" + fits
		}
		tells(t, fits, c.tells+rep(c.one, n))
		tells(t, fits+"\n", "long\n")
		tells(t, "\n"+fits, "long\n")
		tells(t, fits+"x", "long\n")
		tells(t, fits+fits, "long\n")
	}
	tells(t, "new 1\nsend 0 0 "+rep("x", 65536-15), "ok\nok\n")
	tells(t, "new 1\nsend 0 0 "+rep("x", 65536-14), "long\n")
	tells(t, rep("x", 1<<20), "long\n")
}

// thousands are lines of 1000 ticks.
func thousands(n int) []line {
	return slices.Repeat([]line{{"tick 1000", "ok"}}, n)
}

// Bounds: 5000 ticks pass, and not one more.
func TestLate(t *testing.T) {
	one := []line{{"new 1", "ok"}}
	plays(t, slices.Concat(one, thousands(5), []line{{"tick 1", "late"}, {"tick 1000", "late"}, {"lead", "0"}, {"tick 1", "late"}})...)
	// A line that is late is not done, and one behind it that is not late is.
	plays(t, slices.Concat(one, thousands(4), []line{{"tick 999", "ok"}, {"tick 2", "late"}, {"tick 1000", "late"}, {"tick 1", "ok"}, {"tick 1", "late"}})...)
	plays(t, slices.Concat(one, thousands(4), []line{{"tick 500", "ok"}, {"tick 501", "late"}, {"tick 500", "ok"}, {"tick 1", "late"}})...)
	plays(t, slices.Concat(one, thousands(4), []line{{"tick 1", "ok"}, {"tick 1000", "late"}, {"tick 999", "ok"}, {"tick 1", "late"}})...)
	// What is no number of ticks is what, however late it is.
	plays(t, slices.Concat(one, thousands(5), []line{{"tick 01", "what"}, {"tick", "what"}, {"tick 1 1", "what"}, {"tick 1000000", "what"}, {"tick -1", "what"}})...)
	// One by one.
	plays(t, slices.Concat(one, slices.Repeat([]line{{"tick 1", "ok"}}, 5000), []line{{"tick 1", "late"}})...)
}

// Bounds: what is late is not done: it leaves the yard as it is.
func TestLateIsNotDone(t *testing.T) {
	l := slices.Concat([]line{{"new 3", "ok"}}, thousands(4), []line{{"tick 990", "ok"}, {"down 1 0 0", "ok"}, {"down 2 0 0", "ok"}, {"lead", "0"}, {"tick 11", "late"}, {"tick 1000", "late"}, {"lead", "0"}, {"tick 10", "ok"}})
	plays(t, l...)
	quiet := slices.DeleteFunc(slices.Clone(l), func(x line) bool { return x.tells == "late" })
	rest := "lead\nsend 0 0 PUT%20/one%20HTTP/1.1%0D%0A%0D%0A\nout 0 0\nup 1\nup 2\nout 0 0\n"
	if got, want := strings.ReplaceAll(play.Tell(text(l)+rest), "late\n", ""), play.Tell(text(quiet)+rest); got != want {
		t.Errorf("with late lines %q, without %q", got, want)
	}
}

// Bounds: ticks that do not pass are not counted; a tick line that is late tells that, even if it were an error; but where there is no yard it tells none.
func TestTicksCounted(t *testing.T) {
	plays(t, slices.Concat([]line{{"tick 1000", "none"}, {"tick 5000", "none"}, {"tick 5001", "none"}, {"tick 0", "none"}, {"new 1", "ok"}, {"tick 0", "error 1"}, {"tick 1001", "error 1"}, {"tick 5000", "error 1"}, {"tick 5001", "late"}, {"tick 999999", "late"}},
		thousands(4), []line{{"tick 1000", "ok"}, {"tick 0", "error 1"}, {"tick 1001", "late"}, {"tick 999999", "late"}, {"tick 1", "late"}})...)
	plays(t, slices.Concat([]line{{"new 1", "ok"}}, thousands(3), []line{{"tick 2000", "error 1"}, {"tick 2001", "late"}}, thousands(2), []line{{"tick 1", "late"}})...)
	plays(t, slices.Concat([]line{{"new 1", "ok"}}, thousands(5), []line{{"tick 1", "late"}, {"new 0", "error 1"}, {"tick 1", "none"}, {"tick 1000", "none"}, {"tick 1001", "none"}})...)
}

// Bounds: the ticks of a play are those of all its yards, also of nodes that are all down.
func TestTicksOfAllYards(t *testing.T) {
	plays(t, slices.Concat([]line{{"new 1", "ok"}}, thousands(2), []line{{"new 3", "ok"}}, thousands(2), []line{{"new 8", "error 1"}, {"new 2", "ok"}, {"tick 999", "ok"}, {"new 1", "ok"}, {"tick 2", "late"}, {"lead", "none"}, {"tick 1", "ok"}, {"tick 1", "late"}, {"new 1", "ok"}, {"tick 1", "late"}, {"lead", "none"}})...)
	plays(t, slices.Concat([]line{{"new 1", "ok"}, {"down 0 0 0", "ok"}}, thousands(5), []line{{"tick 1", "late"}, {"up 0", "ok"}, {"tick 1", "late"}})...)
}

// Promise 25.1: Words are the first words of the table, rising.
func TestWords(t *testing.T) {
	want := []string{"cut", "down", "join", "lead", "new", "node", "out", "room", "send", "shut", "tick", "up"}
	for range 20 {
		l := play.Words()
		if !slices.Equal(l, want) {
			t.Fatalf("Words: %q", l)
		}
		// Who asked may change them.
		for i := range l {
			l[i] = fmt.Sprint("x", i)
		}
		_ = append(l[:3], "y", "z")
		for _, w := range want {
			if is := isWhat(t, w) && isWhat(t, w+" 1") && isWhat(t, w+" 1 1") && isWhat(t, w+" 1 1 1"); is {
				t.Errorf("%s is no first word", w)
			}
		}
	}
}

// Rule R3: a text is not changed, and what is told shares no memory with it.
func TestSharesNothing(t *testing.T) {
	for _, s := range []string{"lead", "none\n", "new 1\ntick 20\nsend 0 0 PUT%20/one%20HTTP/1.1%0D%0A%0D%0APUT%20/one/k%20HTTP/1.1%0D%0Acontent-length:%202%0D%0A%0D%0Ahi\nout 0 0\nsend 0 0 GET%20/one/k%20HTTP/1.1%0D%0A%0D%0A\nout 0 0\nx\n", rep("x", 70000)} {
		want := play.Tell(s)
		memory := []byte(s)
		got := play.Tell(unsafe.String(&memory[0], len(memory)))
		if string(memory) != s {
			t.Errorf("%s was changed", short(s))
		}
		for i := range memory {
			memory[i] = '!'
		}
		if got != want || play.Tell(s) != want {
			t.Errorf("what %s told is changed: %s", short(s), short(got))
		}
	}
}
