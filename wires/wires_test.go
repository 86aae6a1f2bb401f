package wires_test

import (
	"fmt"
	"math"
	"math/rand"
	"slices"
	"testing"
	"unsafe"

	"stowage/api"
	"stowage/wires"
)

// packet is one from a node to another.
func packet(from, to int, s string) api.Packet {
	return api.Packet{From: from, To: to, S: s}
}

// sends asks that a packet is under way.
func sends(t *testing.T, what string, w *wires.Wires, p api.Packet) {
	t.Helper()
	if !w.Send(p) {
		t.Errorf("%s: Send: false", what)
	}
	if got, is := w.At(w.Len() - 1); got != p || !is {
		t.Errorf("%s: the last one is %v, %v", what, got, is)
	}
}

// refuses asks that a packet is lost at once.
func refuses(t *testing.T, what string, w *wires.Wires, p api.Packet) {
	t.Helper()
	n := w.Len()
	sent, taken, lost := w.Counts()
	if w.Send(p) || w.Len() != n {
		t.Errorf("%s: Send", what)
	}
	counts(t, what, w, sent+1, taken, lost+1)
}

// counts asks how many were sent, taken and lost.
func counts(t *testing.T, what string, w *wires.Wires, sent, taken, lost int) {
	t.Helper()
	if a, b, c := w.Counts(); a != sent || b != taken || c != lost {
		t.Errorf("%s: Counts: %d, %d, %d, not %d, %d, %d", what, a, b, c, sent, taken, lost)
	}
}

// under asks which packets are under way, by their bytes.
func under(t *testing.T, what string, w *wires.Wires, want ...string) {
	t.Helper()
	var l []string
	for i := range w.Len() {
		p, _ := w.At(i)
		l = append(l, p.S)
	}
	if !slices.Equal(l, want) {
		t.Errorf("%s: under way %q, not %q", what, l, want)
	}
}

// filled is a net with as many packets under way as may be, from 0 to 1 and from 2 to 3 in turn.
func filled(t *testing.T) *wires.Wires {
	t.Helper()
	w := wires.New()
	for i := range api.MaxFlight {
		from := i % 2 * 2
		sends(t, "filled", w, packet(from, from+1, fmt.Sprint(i)))
	}
	if w.Len() != api.MaxFlight {
		t.Fatalf("filled: %d", w.Len())
	}
	return w
}

// wrongPlaces are places beyond those of n packets.
func wrongPlaces(n int) []int {
	return []int{-1, n, n + 1, math.MinInt, math.MaxInt, -n - 1}
}

// The example of the chapter.
func TestExample(t *testing.T) {
	w := wires.New()
	a, b := packet(0, 1, "a"), packet(0, 1, "b")
	sends(t, "a", w, a)
	sends(t, "b", w, b)
	if !w.Double(0) {
		t.Errorf("Double")
	}
	under(t, "Double", w, "a", "b", "a")
	if p, is := w.Take(1); p != b || !is {
		t.Errorf("Take: %v, %v", p, is)
	}
	if p, is := w.Take(1); p != a || !is {
		t.Errorf("Take: %v, %v", p, is)
	}
	under(t, "Take", w, "a")
	counts(t, "all", w, 3, 2, 0)
}

// Promise 8.1: from each node to each other one; to itself, and where one is no node, it is lost.
func TestSend(t *testing.T) {
	w := wires.New()
	n := 0
	for from := -1; from <= 7; from++ {
		for to := -1; to <= 7; to++ {
			p := packet(from, to, fmt.Sprint(from, to))
			what := fmt.Sprintf("from %d to %d", from, to)
			if from >= 0 && from < 7 && to >= 0 && to < 7 && from != to {
				sends(t, what, w, p)
				n++
			} else {
				refuses(t, what, w, p)
			}
		}
	}
	for _, wrong := range []int{math.MinInt, math.MaxInt, 8, -7} {
		refuses(t, "no node", w, packet(wrong, 1, "x"))
		refuses(t, "no node", w, packet(1, wrong, "x"))
		refuses(t, "no node", w, packet(wrong, wrong, "x"))
	}
	if w.Len() != n || n != 42 {
		t.Errorf("under way: %d of %d", w.Len(), n)
	}
	counts(t, "all", w, 81+12, 0, 81+12-42)
	sends(t, "no bytes", w, packet(0, 1, ""))
}

// Promise 8.1: each place, and those beyond.
func TestPlaces(t *testing.T) {
	for i := range 4 {
		made := func() *wires.Wires {
			w := wires.New()
			for _, s := range []string{"a", "b", "c", "d"} {
				sends(t, s, w, packet(0, 1, s))
			}
			return w
		}
		all := []string{"a", "b", "c", "d"}
		left := slices.Delete(slices.Clone(all), i, i+1)
		what := fmt.Sprint("the place ", i)
		w := made()
		if p, is := w.At(i); p != packet(0, 1, all[i]) || !is {
			t.Errorf("%s: At: %v, %v", what, p, is)
		}
		under(t, what+", At", w, all...)
		counts(t, what+", At", w, 4, 0, 0)
		if p, is := w.Take(i); p != packet(0, 1, all[i]) || !is {
			t.Errorf("%s: Take: %v, %v", what, p, is)
		}
		under(t, what+", Take", w, left...)
		counts(t, what+", Take", w, 4, 1, 0)
		w = made()
		if !w.Drop(i) {
			t.Errorf("%s: Drop", what)
		}
		under(t, what+", Drop", w, left...)
		counts(t, what+", Drop", w, 4, 0, 1)
		w = made()
		if !w.Double(i) {
			t.Errorf("%s: Double", what)
		}
		under(t, what+", Double", w, append(all, all[i])...)
		counts(t, what+", Double", w, 5, 0, 0)
	}
}

// Promise 8.1: places where there is none change nothing.
func TestWrongPlaces(t *testing.T) {
	for n := range 4 {
		w := wires.New()
		var all []string
		for i := range n {
			all = append(all, fmt.Sprint(i))
			sends(t, "Send", w, packet(5, 6, all[i]))
		}
		for _, i := range wrongPlaces(n) {
			what := fmt.Sprintf("the place %d of %d", i, n)
			if p, is := w.At(i); p != (api.Packet{}) || is {
				t.Errorf("%s: At: %v, %v", what, p, is)
			}
			if p, is := w.Take(i); p != (api.Packet{}) || is {
				t.Errorf("%s: Take: %v, %v", what, p, is)
			}
			if w.Drop(i) || w.Double(i) {
				t.Errorf("%s: Drop, Double", what)
			}
			under(t, what, w, all...)
			counts(t, what, w, n, 0, 0)
		}
	}
}

// Promise 8.1: api.MaxFlight under way; room again behind Take, Drop, Cut and Clear.
func TestFull(t *testing.T) {
	w := filled(t)
	p := packet(4, 5, "one more")
	full := func(what string) {
		t.Helper()
		refuses(t, what, w, p)
		sent, taken, lost := w.Counts()
		if w.Double(0) || w.Double(api.MaxFlight-1) || w.Double(api.MaxFlight) || w.Len() != api.MaxFlight {
			t.Errorf("%s: Double", what)
		}
		counts(t, what, w, sent, taken, lost)
	}
	full("full")
	if got, is := w.Take(17); got.S != "17" || !is {
		t.Errorf("Take: %v, %v", got, is)
	}
	sends(t, "behind Take", w, p)
	full("full again")
	if !w.Drop(0) || !w.Double(0) {
		t.Errorf("Drop, Double")
	}
	full("full by Double")
	if n := w.Clear(1); n != api.MaxFlight/2-1 {
		t.Errorf("Clear: %d", n)
	}
	if !w.Double(0) {
		t.Errorf("Double behind Clear")
	}
	sends(t, "behind Clear", w, p)
}

// Promise 8.2: a cut bars both ways between two nodes, and no others; what is under way there is lost.
func TestCut(t *testing.T) {
	for a := range 7 {
		for b := range 7 {
			if a == b {
				continue
			}
			what := fmt.Sprintf("Cut(%d, %d)", a, b)
			w := wires.New()
			var left []string
			for from := range 7 {
				for to := range 7 {
					if from == to {
						continue
					}
					s := fmt.Sprint(from, to)
					sends(t, what, w, packet(from, to, s))
					if !(from == a && to == b) && !(from == b && to == a) {
						left = append(left, s)
					}
				}
			}
			if n := w.Cut(a, b); n != 2 {
				t.Errorf("%s: %d", what, n)
			}
			under(t, what, w, left...)
			counts(t, what, w, 42, 0, 2)
			refuses(t, what, w, packet(a, b, "x"))
			refuses(t, what, w, packet(b, a, "x"))
			for c := range 7 {
				if c != a && c != b {
					sends(t, what, w, packet(a, c, "x"))
					sends(t, what, w, packet(c, b, "x"))
				}
			}
			if w.Cut(a, b) != 0 || w.Cut(b, a) != 0 {
				t.Errorf("%s again", what)
			}
			w.Heal()
			sends(t, what+", Heal", w, packet(a, b, "x"))
			sends(t, what+", Heal", w, packet(b, a, "x"))
		}
	}
}

// Promise 8.2: a cut of what is no node, or of a node with itself, does nothing.
func TestCutWrong(t *testing.T) {
	w := wires.New()
	sends(t, "Send", w, packet(0, 1, "a"))
	sends(t, "Send", w, packet(6, 0, "b"))
	for _, wrong := range []int{-1, 7, math.MinInt, math.MaxInt} {
		for _, node := range []int{0, 6, wrong} {
			if w.Cut(wrong, node) != 0 || w.Cut(node, wrong) != 0 {
				t.Errorf("Cut of %d and %d", wrong, node)
			}
		}
	}
	for node := range 7 {
		if w.Cut(node, node) != 0 {
			t.Errorf("Cut of %d with itself", node)
		}
	}
	under(t, "Cut", w, "a", "b")
	counts(t, "Cut", w, 2, 0, 0)
	sends(t, "Send", w, packet(0, 1, "c"))
	sends(t, "Send", w, packet(6, 0, "d"))
}

// Promise 8.2: several cuts; what is under way elsewhere may still be taken and doubled; Heal mends all and brings nothing back.
func TestHeal(t *testing.T) {
	w := wires.New()
	for _, s := range []string{"a", "b", "c"} {
		sends(t, s, w, packet(0, 1, s))
		sends(t, s, w, packet(2, 1, s+"2"))
	}
	if n := w.Cut(1, 0); n != 3 {
		t.Errorf("Cut: %d", n)
	}
	if !w.Double(1) || w.Cut(0, 2) != 0 {
		t.Errorf("Double, Cut")
	}
	under(t, "Cut", w, "a2", "b2", "c2", "b2")
	refuses(t, "both cuts", w, packet(0, 1, "x"))
	refuses(t, "both cuts", w, packet(2, 0, "x"))
	if n := w.Cut(1, 2); n != 4 {
		t.Errorf("Cut: %d", n)
	}
	counts(t, "cuts", w, 9, 0, 9)
	w.Heal()
	under(t, "Heal", w)
	counts(t, "Heal", w, 9, 0, 9)
	for _, p := range []api.Packet{packet(0, 1, "a"), packet(2, 0, "b"), packet(1, 2, "c"), packet(2, 1, "d")} {
		sends(t, "Heal", w, p)
	}
	w.Heal()
	under(t, "Heal again", w, "a", "b", "c", "d")
}

// Promise 8.2: Clear loses what is on its way to a node, not what comes from it, and bars nothing.
func TestClear(t *testing.T) {
	w := wires.New()
	for i := range 7 {
		sends(t, "Send", w, packet(i, (i+1)%7, fmt.Sprint(i)))
		sends(t, "Send", w, packet(i, (i+2)%7, fmt.Sprint(i)))
	}
	for _, wrong := range []int{-1, 7, math.MinInt, math.MaxInt} {
		if n := w.Clear(wrong); n != 0 || w.Len() != 14 {
			t.Errorf("Clear(%d): %d", wrong, n)
		}
	}
	counts(t, "Clear of no node", w, 14, 0, 0)
	if n := w.Clear(3); n != 2 {
		t.Errorf("Clear: %d", n)
	}
	under(t, "Clear", w, "0", "0", "1", "2", "3", "3", "4", "4", "5", "5", "6", "6")
	counts(t, "Clear", w, 14, 0, 2)
	if n := w.Clear(3); n != 0 {
		t.Errorf("Clear again: %d", n)
	}
	sends(t, "behind Clear", w, packet(2, 3, "x"))
	// What a cut would bar is cleared as well as anything.
	sends(t, "behind Clear", w, packet(0, 3, "y"))
	w.Cut(2, 3)
	if n := w.Clear(3); n != 1 {
		t.Errorf("Clear behind Cut: %d", n)
	}
}

// Promise 8.2: a nil net.
func TestNil(t *testing.T) {
	var w *wires.Wires
	w.Heal()
	for _, i := range []int{-1, 0, 1, math.MaxInt} {
		if w.Send(packet(0, 1, "x")) || w.Drop(i) || w.Double(i) || w.Cut(i, 2) != 0 || w.Clear(i) != 0 || w.Len() != 0 {
			t.Errorf("a nil net, %d", i)
		}
		if p, is := w.At(i); p != (api.Packet{}) || is {
			t.Errorf("a nil net: At: %v, %v", p, is)
		}
		if p, is := w.Take(i); p != (api.Packet{}) || is {
			t.Errorf("a nil net: Take: %v, %v", p, is)
		}
	}
	counts(t, "a nil net", w, 0, 0, 0)
}

// Rule R1: a net that no call made is as one that New made.
func TestZero(t *testing.T) {
	for _, w := range []*wires.Wires{wires.New(), {}} {
		under(t, "nothing", w)
		counts(t, "nothing", w, 0, 0, 0)
		if w.Cut(0, 1) != 0 || w.Clear(0) != 0 {
			t.Errorf("nothing: Cut, Clear")
		}
		refuses(t, "Cut", w, packet(1, 0, "x"))
		w.Heal()
		sends(t, "Send", w, packet(1, 0, "x"))
	}
}

// Rule R3: packets are nobody else's memory.
func TestSharesNothing(t *testing.T) {
	w := wires.New()
	sent := packet(0, 1, "some bytes")
	w.Send(sent)
	w.Double(0)
	at, _ := w.At(0)
	again, _ := w.At(0)
	one, _ := w.Take(0)
	two, _ := w.Take(0)
	met := map[*byte]bool{}
	for _, p := range []api.Packet{sent, at, again, one, two} {
		met[unsafe.StringData(p.S)] = true
	}
	if len(met) != 5 {
		t.Errorf("five packets have %d memories", len(met))
	}
	// A net of its own.
	a, b := wires.New(), wires.New()
	a.Cut(0, 1)
	sends(t, "another net", b, sent)
	counts(t, "another net", a, 0, 0, 0)
}

// plain is a net by the words of the promises.
type plain struct {
	l                 []api.Packet
	cuts              map[[2]int]bool
	sent, taken, lost int
}

func (n *plain) send(p api.Packet) bool {
	n.sent++
	node := func(k int) bool { return k >= 0 && k <= 6 }
	if !node(p.From) || !node(p.To) || p.From == p.To || n.cuts[[2]int{p.From, p.To}] || len(n.l) == api.MaxFlight {
		n.lost++
		return false
	}
	n.l = append(n.l, p)
	return true
}

func (n *plain) lose(goes func(p api.Packet) bool) int {
	var left []api.Packet
	for _, p := range n.l {
		if goes(p) {
			n.lost++
		} else {
			left = append(left, p)
		}
	}
	gone := len(n.l) - len(left)
	n.l = left
	return gone
}

// step does one call at both nets, and tells whether they answered the same.
func step(r *rand.Rand, w *wires.Wires, n *plain) bool {
	i := r.Intn(len(n.l)+2) - 1
	there := i >= 0 && i < len(n.l)
	a, b := r.Intn(9)-1, r.Intn(9)-1
	switch k := r.Intn(40); {
	case k < 20:
		p := packet(a, b, fmt.Sprint(r.Intn(1000)))
		return w.Send(p) == n.send(p)
	case k < 26:
		p, is := w.Take(i)
		if !there {
			return !is && p == api.Packet{}
		}
		want := n.l[i]
		n.taken++
		n.l = slices.Delete(n.l, i, i+1)
		return is && p == want
	case k < 30:
		if there {
			n.lost++
			n.l = slices.Delete(n.l, i, i+1)
		}
		return w.Drop(i) == there
	case k < 34:
		there = there && len(n.l) < api.MaxFlight
		if there {
			n.sent++
			n.l = append(n.l, n.l[i])
		}
		return w.Double(i) == there
	case k < 37:
		if a < 0 || b < 0 || a > 6 || b > 6 || a == b {
			return w.Cut(a, b) == 0
		}
		n.cuts[[2]int{a, b}], n.cuts[[2]int{b, a}] = true, true
		return w.Cut(a, b) == n.lose(func(p api.Packet) bool { return p.From == a && p.To == b || p.From == b && p.To == a })
	case k < 38:
		return w.Clear(a) == n.lose(func(p api.Packet) bool { return p.To == a })
	default:
		clear(n.cuts)
		w.Heal()
		return true
	}
}

// Promises 8.1 to 8.3: any calls, held against a plain net; each that was sent is under way, taken or lost, once.
func TestAnyCalls(t *testing.T) {
	for seed := range 60 {
		r := rand.New(rand.NewSource(int64(seed)))
		w, n := wires.New(), &plain{cuts: map[[2]int]bool{}}
		for call := range 400 {
			if !step(r, w, n) {
				t.Fatalf("seed %d, call %d: another answer", seed, call)
			}
			var want []string
			for _, p := range n.l {
				want = append(want, p.S)
			}
			under(t, fmt.Sprintf("seed %d, call %d", seed, call), w, want...)
			counts(t, fmt.Sprintf("seed %d, call %d", seed, call), w, n.sent, n.taken, n.lost)
			if sent, taken, lost := w.Counts(); sent != taken+lost+w.Len() {
				t.Errorf("seed %d, call %d: %d sent, %d taken, %d lost, %d under way", seed, call, sent, taken, lost, w.Len())
			}
		}
	}
}

// Promise 8.3: from the front on packets come in the order in which they were sent.
func TestInOrder(t *testing.T) {
	w := filled(t)
	for i := range api.MaxFlight {
		if p, is := w.Take(0); p.S != fmt.Sprint(i) || !is {
			t.Fatalf("the packet %d: %v, %v", i, p, is)
		}
	}
	counts(t, "all", w, api.MaxFlight, api.MaxFlight, 0)
}
