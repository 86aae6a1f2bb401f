package yard_test

import (
	"testing"
	"unsafe"

	"stowage/api"
	"stowage/yard"
)

// Rule R3: bytes that came are not kept: when their memory has others, nothing is changed by it.
func TestKeepsNothing(t *testing.T) {
	s := led(t, 3)
	memory := make([]byte, 0, 9000)
	sends := func(text, want string) {
		t.Helper()
		memory = append(memory[:0], text...)
		s.does(send(0, 0, unsafe.String(&memory[0], len(memory))))
		if string(memory) != text {
			t.Errorf("what was handed in was changed")
		}
		for i := range memory {
			memory[i] = '!'
		}
		s.goes(0, 0, want)
	}
	body := rep("body ", 1500)
	text := req("PUT", "/one/k", "x-token: t", body)
	for at := 1; at < len(text); at += 1111 {
		// In two pieces, of which the first one waits for the second one.
		s.does(shut(0, 0))
		sends(text[:at], "")
		sends(text[at:], put(3, body))
	}
	sends(req("GET", "/one/k"), got(3, body))
	s.does(down(0), tick(60))
	k := s.Leader()
	s.asks(k, req("GET", "/one/k"), got(3, body))
}

// spanOf is where a text stands.
func spanOf(s string) [2]uintptr {
	from := uintptr(unsafe.Pointer(unsafe.StringData(s)))
	return [2]uintptr{from, from + uintptr(len(s))}
}

// Rule R3: answers are of their own memory.
func TestSharesNothing(t *testing.T) {
	s := led(t, 3)
	body := rep("body ", 1500)
	text := req("PUT", "/one/k", body)
	s.does(send(0, 0, text))
	l := []string{text, s.Out(0, 0), s.Save(0), s.Save(0), s.Save(1)}
	for conn := range 3 {
		s.does(send(0, conn, req("GET", "/one/k")))
	}
	for conn := range 3 {
		l = append(l, s.Out(0, conn))
	}
	for i, a := range l {
		if a == "" {
			t.Errorf("%d is nothing", i)
		}
		for j, b := range l[:i] {
			if x, y := spanOf(a), spanOf(b); x[0] < y[1] && y[0] < x[1] {
				t.Errorf("%d and %d have one memory", i, j)
			}
		}
	}
}

// FuzzDo does acts of any kind: none panics, refusals are of those kinds that the chapter names, and it goes on behind them.
func FuzzDo(f *testing.F) {
	f.Add(uint8(3), "\x00\x1e", req("PUT", "/one"))
	f.Add(uint8(1), "\x00\x1e\x01\x00\x03\x00\x04\x00", req("PUT", "/one/k", "hi"))
	f.Add(uint8(2), "\x05\x01\x06\x11\x00\x80\x01\x00", "BREW / HTTP/1.1\r\n\r\n")
	f.Fuzz(func(t *testing.T, nodes uint8, acts, text string) {
		n := 1 + int(nodes)%api.MaxNodes
		y, e := yard.New(n)
		if e != api.OK {
			t.Fatalf("New(%d): %v", n, e)
		}
		s := &scene{t, y}
		for i := 0; i+1 < len(acts) && i < 60; i += 2 {
			a := api.Act{Kind: int(acts[i] % 16), Node: int(acts[i] / 16), Conn: int(acts[i+1] % 9), N: int(int8(acts[i+1])), M: int(acts[i+1] / 8), Text: text}
			switch e := s.Do(a); e {
			case api.OK, api.ErrArg, api.ErrDown, api.ErrShut, api.ErrFull:
			default:
				t.Errorf("Do(%s): %v", short(a), e)
			}
		}
		s.heal(n)
		s.does(tick(120))
		if s.Leader() < 0 && !changesMembers(text) {
			t.Errorf("nobody leads")
		}
	})
}

// changesMembers tells whether a text may ask for other members, of which the yard may have no majority.
func changesMembers(text string) bool {
	for i := range text {
		if i+7 <= len(text) && text[i:i+7] == "/_nodes" || text[i] == '%' {
			return true
		}
	}
	return false
}
