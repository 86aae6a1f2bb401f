package play_test

import (
	"fmt"
	"slices"
	"strings"
	"testing"

	"stowage/play"
)

// form is a first word, and the kinds of the words behind it: n a number, b bytes.
type form struct{ word, behind string }

// forms are all lines of the table.
func forms() []form {
	return []form{{"new", "n"}, {"tick", "n"}, {"send", "nnb"}, {"shut", "nn"}, {"down", "nnn"}, {"up", "n"}, {"cut", "n"}, {"join", "n"}, {"room", "nn"}, {"room", "n"}, {"out", "nn"}, {"lead", ""}, {"node", "n"}}
}

// line is the form's line, with words that say the number 1, but for one place that has another word.
func (f form) line(place int, other string) string {
	s := f.word
	for i := range len(f.behind) {
		if i == place {
			s += " " + other
		} else {
			s += " 1"
		}
	}
	return s
}

// isWhat tells whether a line behind a yard of three tells what.
func isWhat(t *testing.T, says string) bool {
	t.Helper()
	return last(t, "new 3\nlead\n"+says) == "what"
}

// Promise 25.1: what the lines tell, one behind the other; lines end with a byte 10, the last one with or without.
func TestLines(t *testing.T) {
	for _, c := range []struct{ text, want string }{
		{"", ""}, {"\n", ""}, {"\n\n\n", ""}, {"lead", "none\n"}, {"lead\n", "none\n"}, {"lead\n\n", "none\n"}, {"\nlead", "none\n"}, {"\n\n\nlead\n\n\nlead\n\n", "none\nnone\n"},
		{"lead\nlead", "none\nnone\n"}, {"new 1\nnode 0", "ok\nup\n"}, {"new 1\n\n\nnode 0\nnode 1", "ok\nup\ndown\n"}, {"x", "what\n"}, {"x\n", "what\n"}, {"x\ny\n\nz", "what\nwhat\nwhat\n"},
		{" ", "what\n"}, {" \n", "what\n"}, {"\n \n\n  \n", "what\nwhat\n"}, {"lead\r\nlead\r\n", "what\nwhat\n"}, {"lead\rlead", "what\n"}, {"\r\n", "what\n"}, {"lead\x00", "what\n"}, {"\x00", "what\n"},
		{"lead\vlead", "what\n"}, {"lead\flead", "what\n"}, {"lead\u2028lead", "what\n"}, {"lead\u0085lead", "what\n"},
	} {
		tells(t, c.text, c.want)
	}
}

// Words: what stands between single blanks, and nothing else, is a word: each line with other white space, or with more of it, is none.
func TestBlanks(t *testing.T) {
	for _, f := range forms() {
		says := f.line(-1, "")
		if isWhat(t, says) {
			t.Errorf("%q: what", says)
		}
		wrong := []string{" " + says, "  " + says, says + " ", says + "  ", "\t" + says, says + "\t", says + "\r", says + "\v", says + "\x00", says + " 1\t", "\ufeff" + says, says + "\u00a0"}
		for _, white := range []string{"  ", "\t", " \t", "\t ", "\r", "\v", "\f", "\u00a0", "\u2003", ",", "%20"} {
			if f.behind != "" {
				wrong = append(wrong, strings.Replace(says, " ", white, 1))
			}
		}
		for _, s := range wrong {
			if !isWhat(t, s) {
				t.Errorf("%q is not what", s)
			}
		}
	}
	for _, s := range []string{"room 1  1", "room 1 1 ", "send 1 1  x", "send 1 1 x ", "send 1  1 x"} {
		if !isWhat(t, s) {
			t.Errorf("%q is not what", s)
		}
	}
}

// Words: each first word with fewer words behind it, with just so many, and with more.
func TestManyWords(t *testing.T) {
	right := map[string][]int{}
	for _, f := range forms() {
		right[f.word] = append(right[f.word], len(f.behind))
	}
	if len(right) != 12 {
		t.Fatalf("%d words", len(right))
	}
	for word, l := range right {
		for n := range 9 {
			if says := word + rep(" 1", n); isWhat(t, says) == slices.Contains(l, n) {
				t.Errorf("%q: what: %v", says, !slices.Contains(l, n))
			}
		}
		if !isWhat(t, word+rep(" 1", 30000)) {
			t.Errorf("30000 words behind %s", word)
		}
	}
}

// Words: first words that are none of the table.
func TestOtherWords(t *testing.T) {
	wrong := []string{"", " ", "1", "what", "none", "ok", "late", "long", "open", "save", "leader", "#", "%6Cead", "error"}
	for _, f := range forms() {
		w := f.word
		wrong = append(wrong, strings.ToUpper(w), strings.ToUpper(w[:1])+w[1:], w[1:], w[:len(w)-1], w+"s", w+w, "x"+w, w+":", w+"\x00", "\xff"+w)
	}
	for _, w := range wrong {
		for n := range 5 {
			if says := w + rep(" 1", n); says != "" && !isWhat(t, says) {
				t.Errorf("%q is not what", says)
			}
		}
	}
}

// Words: a number is 1 to 6 digits, without a 0 ahead.
func TestNumbers(t *testing.T) {
	right := []string{"0", "1", "9", "10", "42", "100", "999", "1000", "99999", "100000", "999999"}
	wrong := []string{
		"", "00", "01", "000000", "012345", "0000000", "1000000", "0000001", "9999999", "10000000", "18446744073709551617", rep("1", 400), "-1", "+1", "-0", "+0", "-", "+", "--1", "1-", "1+",
		"1.0", ".1", "1.", "1e1", "1_0", "0x1", "0b1", "0o1", "1a", "a1", "a", "١", "１", "1\x00", "\x001", "%31", "1%", "1,000", "'1'", "\xff", "1\xff", "/", ":", "1/", "1:", "12345/", "12345:", "one", "nil", "NaN", "Inf",
	}
	for _, f := range forms() {
		for place := range len(f.behind) {
			if f.behind[place] != 'n' {
				continue
			}
			for _, s := range right {
				if says := f.line(place, s); isWhat(t, says) {
					t.Errorf("%q: what", says)
				}
			}
			for _, s := range wrong {
				if says := f.line(place, s); !isWhat(t, says) {
					t.Errorf("%q is not what", says)
				}
			}
			for c := range 256 {
				s := string([]byte{byte(c)})
				is := c >= '0' && c <= '9'
				if says := f.line(place, "1"+s); c != '\n' && c != ' ' && isWhat(t, says) == is {
					t.Errorf("%q: what: %v", says, is)
				}
			}
		}
	}
}

// Words: a number says just that number. (Ticks tell it: a yard's log is the same behind as many.)
func TestNumbersSay(t *testing.T) {
	for _, n := range []int{1, 2, 7, 10, 19, 30, 42, 100, 123, 987, 1000} {
		one := "new 3\n" + fmt.Sprintf("tick %d\n", n)
		many := "new 3\n" + rep("tick 1\n", n)
		rest := "lead\nsend 0 0 PUT%20/one%20HTTP/1.1%0D%0A%0D%0A\nout 0 0\ntick 3\nlead\n" + fmt.Sprintf("tick %d\n", 5000-n-3) + "tick 1\n"
		got := play.Tell(one + rest)
		if want := play.Tell(many + rest); got != "ok\nok\n"+strings.TrimPrefix(want, "ok\n"+rep("ok\n", n)) {
			t.Errorf("%d ticks: %q, one by one %q", n, got, want)
		}
	}
}

// Words: bytes that may stand in a word.
func TestBytes(t *testing.T) {
	for c := range 256 {
		s := string([]byte{byte(c)})
		is := c >= 33 && c <= 126 && !strings.Contains("%#?", s)
		for _, word := range []string{s, "a" + s, s + "a", "a" + s + "a", "%41" + s, s + "%41"} {
			if c != '\n' && isWhat(t, "send 1 1 "+word) == is {
				t.Errorf("%q: what: %v", word, is)
			}
		}
		for _, form := range []string{"%%%02X", "%%%02x"} {
			if isWhat(t, "send 1 1 "+fmt.Sprintf(form, c)) {
				t.Errorf("the escape of %d: what", c)
			}
		}
	}
	for _, s := range []string{"", "a", "%", "%%", "%4", "%4g", "%g4", "%G0", "%-1", "%+1", "% 1", "%4%", "%u0041", "a%", "%41%", "%4\x00", "%\xff1", "a?b", "a#b", "?", "#", "ä", "a+b", "a/b", "a&b=c", "%2f", "%2F", "%00", "%ff", "%fF", "%Ff", rep("%0A", 5000), rep("x", 60000)} {
		bad := strings.ContainsAny(s, "?#\x00 ä\xff") || s != "" && strings.Contains(s, "%") && !slices.Contains([]string{"%2f", "%2F", "%00", "%ff", "%fF", "%Ff"}, s) && len(s) < 100
		if isWhat(t, "send 1 1 "+s) != bad {
			t.Errorf("%q: what: %v", s, !bad)
		}
	}
}

// Words: bytes are what the word says, escape by escape: they come as they are to a connection.
func TestBytesSay(t *testing.T) {
	for _, c := range []struct{ word, is string }{
		{"GET%20/%20HTTP/1.1%0D%0A%0D%0A", says(200, "")},
		{"%47%45%54%20%2f%20%48TTP%2F1%2e1%0d%0A%0D%0a", says(200, "")},
		{"GET+/+HTTP/1.1%0D%0A%0D%0A", says(400, "error 190\n", "connection: close")}, // a + is no blank here
		{"GET%2520/%20HTTP/1.1%0D%0A%0D%0A", says(400, "error 190\n", "connection: close")},
		{"BREW%20/%20HTTP/1.1%0D%0A%0D%0A", says(501, "error 193\n", "connection: close")},
		{"GET%20/%20HTTP/1.1%0D%0A", ""},
		{"", ""},
	} {
		plays(t, line{"new 1", "ok"}, line{"tick 20", "ok"}, line{"send 0 0 " + c.word, "ok"}, line{"out 0 0", "=" + name(c.is)})
	}
	// Each byte, as an object's.
	for b := range 256 {
		l := []line{{"new 1", "ok"}, {"tick 20", "ok"}, {"send 0 1 PUT%20/one%20HTTP/1.1%0D%0A%0D%0APUT%20/one/k%20HTTP/1.1%0D%0Acontent-length:%203%0D%0A%0D%0A" + fmt.Sprintf("a%%%02xb", b), "ok"}, {"send 0 0 GET%20/one/k%20HTTP/1.1%0D%0A%0D%0A", "ok"}}
		l = append(l, line{"out 0 0", last(t, text(l)+"out 0 0")})
		plays(t, l...)
		if want := "%0D%0A%0D%0Aa" + name(string([]byte{byte(b)})) + "b"; !strings.HasSuffix(l[4].tells, want) {
			t.Errorf("of %d: %q", b, l[4].tells)
		}
	}
	// Escapes of a key.
	plays(t, slices.Concat([]line{{"new 1", "ok"}, {"tick 20", "ok"}}, asks(0, "PUT /one HTTP/1.1\r\n\r\n", says(200, "")),
		[]line{{"send 0 0 PUT%20/one/a%2541%2525%20HTTP/1.1%0D%0A%0D%0A", "ok"}, {"shut 0 0", "ok"}}, asks(0, "GET /one HTTP/1.1\r\n\r\n", says(200, "k aA%25\n")))...)
}
