package play_test

import (
	"fmt"
	"math/rand"
	"strings"
	"testing"

	"stowage/play"
)

// drawn draws lines.
type drawn struct {
	*rand.Rand
	asked int
	sent  []int // where: nodes and connections by turns
}

// node is a node's number, mostly of one that is there.
func (d *drawn) node(p *plain) int {
	if d.Intn(30) == 0 {
		return d.Intn(1000)
	}
	if k := p.yard.Leader(); k >= 0 && d.Intn(3) > 0 {
		return k
	}
	return d.Intn(max(p.nodes, 1))
}

// request is the bytes of a request.
func (d *drawn) request() string {
	d.asked++
	body := fmt.Sprint(d.asked, rep("\x00x", d.Intn(3)*d.Intn(900)))
	switch d.Intn(9) {
	case 0, 1:
		return "PUT /one HTTP/1.1\r\n\r\n"
	case 2, 3, 4:
		return fmt.Sprintf("PUT /one/k%d HTTP/1.1\r\ncontent-length: %d\r\n\r\n%s", d.Intn(4), len(body), body)
	case 5:
		return fmt.Sprintf("DELETE /one/k%d HTTP/1.1\r\n\r\n", d.Intn(4))
	case 6:
		return []string{"x\r\n", "GET / HT", "GET /one HTTP/1.1\r\n\r\n", "BREW / HTTP/1.1\r\n\r\n", "", "\x00\xff"}[d.Intn(6)]
	}
	return fmt.Sprintf("GET /one/k%d HTTP/1.1\r\n\r\n", d.Intn(4))
}

// bytes is a word of bytes: some of them raw that need no escape, some escapes with small letters.
func (d *drawn) bytes(s string) string {
	var b strings.Builder
	for i := range len(s) {
		switch c := s[i]; {
		case c > 32 && c < 127 && !strings.ContainsRune("%#?", rune(c)) && d.Intn(20) > 0:
			b.WriteByte(c)
		case d.Intn(2) == 0:
			fmt.Fprintf(&b, "%%%02x", c)
		default:
			fmt.Fprintf(&b, "%%%02X", c)
		}
	}
	return b.String()
}

// right is a line that is right, in its words.
func (d *drawn) right(p *plain) string {
	node, conn := d.node(p), d.Intn(3)*d.Intn(5)
	switch d.Intn(28) {
	case 0:
		if p.yard != nil && d.Intn(5) > 0 {
			return "lead"
		}
		return fmt.Sprintf("new %d", d.Intn(9))
	case 1, 2, 3, 4, 5:
		return fmt.Sprintf("tick %d", 1+d.Intn(4)*d.Intn(20))
	case 6:
		return fmt.Sprintf("tick %d", []int{0, 1, 999, 1000, 1001, 4000, 5000, 5001}[d.Intn(d.Intn(8)+1)])
	case 7:
		return fmt.Sprintf("shut %d %d", node, conn)
	case 8:
		return fmt.Sprintf("down %d %d %d", node, d.Intn(4), d.Intn(90))
	case 9, 10, 11:
		if node = d.Intn(max(p.nodes, 1)); p.yard.Up(node) && d.Intn(4) > 0 {
			return fmt.Sprintf("send %d 0 %s", node, d.bytes(d.request()))
		}
		return fmt.Sprintf("up %d", node)
	case 12:
		return fmt.Sprintf("cut %d", node)
	case 13, 14:
		return fmt.Sprintf("join %d", node)
	case 15:
		return fmt.Sprintf("room %d %d", node, d.Intn(9)*d.Intn(900))
	case 16:
		return fmt.Sprintf("room %d", node)
	case 17, 18, 19, 20:
		if len(d.sent) > 0 && d.Intn(4) > 0 {
			i := d.Intn(len(d.sent)/2) * 2
			node, conn = d.sent[i], d.sent[i+1]
		}
		return fmt.Sprintf("out %d %d", node, conn)
	case 21:
		return fmt.Sprintf("node %d", node)
	}
	d.sent = append(d.sent, node, conn)
	d.sent = d.sent[max(0, len(d.sent)-12):]
	return fmt.Sprintf("send %d %d %s", node, conn, d.bytes(d.request()))
}

// line is a line; some have a byte more, less or changed.
func (d *drawn) line(p *plain) string {
	s := d.right(p)
	at, c := d.Intn(len(s)), string([]byte{" 0159%?#-nx\t\r\n\x00\xff"[d.Intn(16)]})
	switch d.Intn(30) {
	case 0:
		return s[:at] + c + s[at:]
	case 1:
		return s[:at] + s[at+1:]
	case 2:
		return s[:at] + c + s[at+1:]
	case 3:
		return s[:at]
	}
	return s
}

// drawnPlay is a play of so many lines, and what a plain play tells.
func drawnPlay(seed, lines int) (text, told string) {
	d, p := &drawn{Rand: rand.New(rand.NewSource(int64(seed)))}, newPlain()
	for i := range lines {
		s := d.line(p)
		if i == d.Intn(3) {
			s = fmt.Sprintf("new %d\ntick 30", 1+d.Intn(7))
		}
		text += s + "\n"
		for _, one := range strings.Split(s, "\n") {
			if one != "" {
				told += p.tell(one) + "\n"
			}
		}
	}
	return text, told
}

// Promise 25.1: what a play tells, line by line, is what a yard does that is driven by the same acts; same plays tell the same.
func TestAgainstPlain(t *testing.T) {
	words := map[string]int{}
	for seed := range 100 {
		text, want := drawnPlay(seed, 150)
		if len(text) > 65536 {
			want = "long\n"
		}
		got := play.Tell(text)
		if got != want {
			t.Fatalf("seed %d: %s\ntells %s\nnot %s", seed, short(text), short(got), short(want))
		}
		if play.Tell(text) != got || play.Tell(strings.TrimSuffix(text, "\n")) != got {
			t.Fatalf("seed %d: it tells something else", seed)
		}
		for _, s := range strings.Split(got, "\n") {
			if strings.HasPrefix(s, "=HTTP") {
				s = s[:len("=HTTP%2F1.1%20200")]
			}
			words[s]++
		}
	}
	for _, s := range []string{"ok", "none", "what", "late", "0", "1", "up", "down", "=", "=HTTP%2F1.1%20200", "=HTTP%2F1.1%20307", "=HTTP%2F1.1%20404", "=HTTP%2F1.1%20400", "=HTTP%2F1.1%20503", "=HTTP%2F1.1%20507", "error 1", "error 21", "error 194"} {
		if words[s] < 5 {
			t.Errorf("%s was told %d times: %v", s, words[s], words)
		}
	}
}

// Promise 25.2: what the beginning of a play tells, cut at a line's end, begins what the play tells.
func TestBeginnings(t *testing.T) {
	for seed := range 30 {
		text, want := drawnPlay(1000+seed, 40)
		told := 0
		for at := range len(text) {
			if text[at] != '\n' {
				continue
			}
			got := play.Tell(text[:at+1])
			if !strings.HasPrefix(want, got) || play.Tell(text[:at]) != got || len(got) < told {
				t.Fatalf("seed %d: cut at %d: %s, not the beginning of %s", seed, at, short(got), short(want))
			}
			told = len(got)
		}
		if told != len(want) {
			t.Errorf("seed %d: the whole play tells %d bytes, not %d", seed, told, len(want))
		}
	}
}

// Rule R1: bytes of any kind.
func FuzzTell(f *testing.F) {
	for seed := range 10 {
		text, _ := drawnPlay(2000+seed, 30)
		f.Add(text)
	}
	for _, s := range []string{"", "\n", "new 1\ntick 20\nlead", "new 7\ntick 1000\nnew 0\nlead", "room 0 5\nroom 0", "new 1\r\n", "\xff\x00 %"} {
		f.Add(s)
	}
	f.Fuzz(func(t *testing.T, text string) {
		got := play.Tell(text)
		if want := plainTell(text); got != want {
			t.Errorf("%s: %s, not %s", short(text), short(got), short(want))
		}
		at := strings.LastIndex(text[:len(text)/2], "\n") + 1
		if !strings.HasPrefix(got, play.Tell(text[:at])) && got != "long\n" {
			t.Errorf("%s: the beginning up to %d tells something else", short(text), at)
		}
	})
}
