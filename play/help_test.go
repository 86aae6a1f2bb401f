package play_test

import (
	"fmt"
	"strings"
	"testing"

	"stowage/play"
)

// rep is one text n times.
func rep(s string, n int) string { return strings.Repeat(s, n) }

// short is a text, or its beginning.
func short(s string) string {
	return fmt.Sprintf("%.400q", s)
}

// tells asks what a play tells.
func tells(t *testing.T, text, want string) {
	t.Helper()
	if got := play.Tell(text); got != want {
		t.Errorf("Tell(%s): %s, not %s", short(text), short(got), short(want))
	}
}

// line is a line, and what it tells.
type line struct{ says, tells string }

// text is a play of lines.
func text(l []line) string {
	var b strings.Builder
	for _, x := range l {
		b.WriteString(x.says + "\n")
	}
	return b.String()
}

// plays asks what each line of a play tells.
func plays(t *testing.T, l ...line) {
	t.Helper()
	got := strings.Split(play.Tell(text(l)), "\n")
	if len(got) != len(l)+1 || got[len(l)] != "" {
		t.Fatalf("%d lines, not %d: %s", len(got)-1, len(l), short(strings.Join(got, "\n")))
	}
	for i, x := range l {
		if got[i] != x.tells {
			t.Errorf("line %d, %s: %s, not %s", i, short(x.says), short(got[i]), short(x.tells))
		}
	}
}

// last is what the last line of a play tells.
func last(t *testing.T, text string) string {
	t.Helper()
	l := strings.Split(strings.TrimSuffix(play.Tell(text), "\n"), "\n")
	return l[len(l)-1]
}

// name is a name's text.
func name(s string) string {
	var b strings.Builder
	for i := range len(s) {
		if strings.IndexByte("ABCDEFGHIJKLMNOPQRSTUVWXYZabcdefghijklmnopqrstuvwxyz0123456789-._~", s[i]) >= 0 {
			b.WriteByte(s[i])
		} else {
			fmt.Fprintf(&b, "%%%02X", s[i])
		}
	}
	return b.String()
}

// asks are the lines of a request on the connection 0, and what goes out.
func asks(node int, request, answer string) []line {
	return []line{{fmt.Sprintf("send %d 0 %s", node, name(request)), "ok"}, {fmt.Sprintf("out %d 0", node), "=" + name(answer)}}
}

// says is the bytes of an answer.
func says(code int, body string, heads ...string) string {
	s := fmt.Sprintf("HTTP/1.1 %d Status\r\ncontent-length: %d\r\n", code, len(body))
	for _, h := range heads {
		s += h + "\r\n"
	}
	return s + "\r\n" + body
}
