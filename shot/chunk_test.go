package shot_test

import (
	"fmt"
	"math"
	"math/rand"
	"slices"
	"strings"
	"testing"
	"unsafe"

	"stowage/api"
	"stowage/shot"
)

// takes asks what a gathering answers to a chunk that is not the end of a snapshot.
func takes(t *testing.T, what string, g *shot.Gather, c api.Chunk, at int) {
	t.Helper()
	if s, is, got := g.Take(c); !none(s) || is || got != at {
		t.Errorf("%s: Take: %s, %v, %d, not %d", what, told(s), is, got, at)
	}
}

// ends asks that a chunk makes a snapshot whole.
func ends(t *testing.T, what string, g *shot.Gather, c api.Chunk, want api.Shot) {
	t.Helper()
	if s, is, at := g.Take(c); !same(s, want) || !is || at != 0 {
		t.Errorf("%s: Take: %s, %v, %d, not %s", what, told(s), is, at, told(want))
	}
}

// Promise 7.3: a snapshot's chunks, at widths about its text's length.
func TestChunks(t *testing.T) {
	for _, s := range good() {
		text := textOf(s)
		for _, wide := range []int{1, 2, 3, 4, 7, 1024, len(text)/2 + 1, len(text) - 1, len(text), len(text) + 1, math.MaxInt - 1, math.MaxInt} {
			if wide == 1 && len(text) > 10000 {
				continue
			}
			what := fmt.Sprintf("%s by %d", told(s), wide)
			l, e := shot.Chunks(s, wide)
			ok(t, what, e)
			at := 0
			g := shot.NewGather()
			for i, c := range l {
				last := i == len(l)-1
				if c.Index != s.Index || c.Term != s.Term || c.At != at || c.Last != last || !strings.HasPrefix(text[at:], c.Data) || !last && len(c.Data) != wide || c.Data == "" || len(c.Data) > wide {
					t.Fatalf("%s: the chunk %d: %d, %d, at %d, %v, %d bytes", what, i, c.Index, c.Term, c.At, c.Last, len(c.Data))
				}
				at += len(c.Data)
				if last {
					ends(t, what, g, c, s)
				} else {
					takes(t, what, g, c, at)
				}
			}
			if at != len(text) {
				t.Errorf("%s: %d bytes in %d chunks", what, at, len(l))
			}
		}
	}
}

// Promise 7.3: a snapshot's error is told ahead of the width's.
func TestChunksWrong(t *testing.T) {
	for _, wide := range []int{0, -1, math.MinInt} {
		if l, e := shot.Chunks(good()[1], wide); len(l) != 0 || e != api.ErrArg {
			t.Errorf("Chunks by %d: %v, %v", wide, l, e)
		}
		if l, e := shot.Chunks(api.Shot{Members: []int{0}, Data: bytesOf(api.MaxShot + 1)}, wide); len(l) != 0 || e != api.ErrLong {
			t.Errorf("Chunks by %d of what is too long: %v, %v", wide, l, e)
		}
	}
	for _, w := range bad() {
		if l, e := shot.Chunks(w.s, 5); len(l) != 0 || e != w.e {
			t.Errorf("Chunks of %s: %d, %v", told(w.s), len(l), e)
		}
	}
}

// threeOf is a snapshot and its three chunks.
func threeOf(t *testing.T) (api.Shot, []api.Chunk) {
	t.Helper()
	s := api.Shot{Index: 5, Term: 3, Members: []int{0, 1, 2}, Data: "abcdef"}
	l, e := shot.Chunks(s, 5)
	if len(l) != 3 || e != api.OK {
		t.Fatalf("Chunks: %d, %v", len(l), e)
	}
	return s, l
}

// Promise 7.3: chunks that come again, or out of order, change nothing and are told the place that is wanted.
func TestOutOfOrder(t *testing.T) {
	s, l := threeOf(t)
	g := shot.NewGather()
	takes(t, "nothing was begun", g, l[1], 0)
	takes(t, "nothing was begun", g, l[2], 0)
	takes(t, "the first one", g, l[0], 5)
	takes(t, "the third one ahead of the second one", g, l[2], 5)
	takes(t, "the second one", g, l[1], 10)
	takes(t, "the second one again", g, l[1], 10)
	for _, at := range []int{-1, math.MinInt, 1, 5, 9, 11, math.MaxInt} {
		takes(t, "another place", g, api.Chunk{Index: 5, Term: 3, At: at, Data: "x"}, 10)
		takes(t, "another place, the last one", g, api.Chunk{Index: 5, Term: 3, At: at, Last: true, Data: "x"}, 10)
	}
	ends(t, "the third one", g, l[2], s)
	takes(t, "the third one again", g, l[2], 0)
	takes(t, "the second one behind all", g, l[1], 0)
	takes(t, "from the front on", g, l[0], 5)
	takes(t, "from the front on", g, l[1], 10)
	ends(t, "once more", g, l[2], s)
}

// Promise 7.3: chunks of another snapshot are passed over, but for one from 0 on, with which it begins anew.
func TestOtherSnapshots(t *testing.T) {
	s, l := threeOf(t)
	other := s
	other.Term, other.Data = 4, "ghijkl"
	m, _ := shot.Chunks(other, 5)
	g := shot.NewGather()
	takes(t, "the first one", g, l[0], 5)
	for _, c := range []api.Chunk{{Index: 5, Term: 4}, {Index: 6, Term: 3}, {Index: 4, Term: 3}, {Index: 5, Term: 2}, {Index: 3, Term: 5}, {}, {Index: -5, Term: 3}} {
		for _, at := range []int{5, 1, -1, 10} {
			c.At, c.Data = at, "xxxxx"
			takes(t, "another one's", g, c, 0)
			c.Last = true
			takes(t, "another one's last", g, c, 0)
		}
	}
	takes(t, "the second one", g, l[1], 10)
	takes(t, "another one's first", g, m[0], 5)
	takes(t, "what was begun ahead of it", g, l[1], 0)
	takes(t, "what was begun ahead of it", g, l[2], 0)
	takes(t, "another one's second", g, m[1], 10)
	ends(t, "another one's third", g, m[2], other)
}

// Promise 7.3: from 0 on it begins anew, also within.
func TestAnew(t *testing.T) {
	s, l := threeOf(t)
	g := shot.NewGather()
	takes(t, "the first one", g, l[0], 5)
	takes(t, "the second one", g, l[1], 10)
	takes(t, "the first one again", g, l[0], 5)
	takes(t, "the third one", g, l[2], 5)
	takes(t, "the second one", g, l[1], 10)
	ends(t, "the third one", g, l[2], s)
	// No bytes stand at the front, too.
	nothing := api.Chunk{Index: 5, Term: 3}
	takes(t, "no bytes", g, nothing, 0)
	takes(t, "no bytes behind them", g, nothing, 0)
	takes(t, "the second one", g, l[1], 0)
	takes(t, "the first one", g, l[0], 5)
	takes(t, "no bytes at the end", g, api.Chunk{Index: 5, Term: 3, At: 5}, 5)
	takes(t, "the second one", g, l[1], 10)
	ends(t, "the third one", g, l[2], s)
	nothing.Last = true
	takes(t, "no bytes, and the last one", g, nothing, 0)
	takes(t, "the second one", g, l[1], 0)
}

// Promise 7.3: a last chunk of no bytes.
func TestLastOfNothing(t *testing.T) {
	s, l := threeOf(t)
	g := shot.NewGather()
	takes(t, "all bytes", g, api.Chunk{Index: 5, Term: 3, Data: textOf(s)}, len(textOf(s)))
	ends(t, "no bytes", g, api.Chunk{Index: 5, Term: 3, At: len(textOf(s)), Last: true}, s)
	takes(t, "behind all", g, l[1], 0)
}

// Promise 7.3: more than 2^18 bytes are not gathered.
func TestTooMany(t *testing.T) {
	const most = 1 << 18
	for _, c := range []struct {
		first, second int
		whole         bool
	}{{most, 0, true}, {most - 1, 1, true}, {1, most - 1, true}, {most, 1, false}, {1, most, false}, {most - 1, 2, false}, {5, most, false}} {
		for _, last := range []bool{false, true} {
			what := fmt.Sprintf("%d and %d bytes, %v", c.first, c.second, last)
			g := shot.NewGather()
			takes(t, what, g, api.Chunk{Index: 1, Term: 1, Data: bytesOf(c.first)}, c.first)
			want := 0
			if c.whole && !last {
				want = most
			}
			takes(t, what, g, api.Chunk{Index: 1, Term: 1, At: c.first, Last: last, Data: bytesOf(c.second)}, want)
			takes(t, what+", then none at the end", g, api.Chunk{Index: 1, Term: 1, At: most}, want)
			if want == most {
				takes(t, what+", then one", g, api.Chunk{Index: 1, Term: 1, At: most, Data: "x"}, 0)
				takes(t, what+", then none", g, api.Chunk{Index: 1, Term: 1, At: most}, 0)
			}
		}
	}
	g := shot.NewGather()
	takes(t, "at once", g, api.Chunk{Index: 1, Term: 1, Data: bytesOf(most + 1)}, 0)
	takes(t, "at once", g, api.Chunk{Index: 1, Term: 1, At: 1}, 0)
	takes(t, "at once", g, api.Chunk{Index: 1, Term: 1, Data: bytesOf(most)}, most)
}

// Promise 7.3: a last one whose text is none, or of another Index or Term; nothing is gathered behind it.
func TestLastWrong(t *testing.T) {
	s, _ := threeOf(t)
	text := textOf(s)
	for _, c := range []api.Chunk{
		{Index: 5, Term: 3, Data: text[:len(text)-1]}, {Index: 5, Term: 3, Data: text + "x"}, {Index: 5, Term: 3, Data: "x"}, {Index: 5, Term: 3},
		{Index: 4, Term: 3, Data: text}, {Index: 5, Term: 4, Data: text}, {Index: 3, Term: 5, Data: text}, {Index: -5, Term: 3, Data: text}, {Data: text},
		{Index: 5, Term: 3, Data: textOf(api.Shot{Index: 5, Term: 3})}, {Index: 5, Term: 3, Data: textOf(api.Shot{Index: 5, Term: 3, Members: []int{0}, Data: bytesOf(api.MaxShot + 1)})},
	} {
		c.Last = true
		g := shot.NewGather()
		takes(t, "wrong at once", g, c, 0)
		takes(t, "behind it", g, api.Chunk{Index: c.Index, Term: c.Term, At: len(c.Data)}, 0)
		if c.Data == "" {
			continue
		}
		first := c
		first.Data, first.Last = c.Data[:1], false
		takes(t, "its first byte", g, first, 1)
		c.At, c.Data = 1, c.Data[1:]
		takes(t, "its rest", g, c, 0)
		takes(t, "its rest again", g, c, 0)
	}
}

// Promise 7.3, and rule R1: a nil gathering, and one that no call made.
func TestNoGather(t *testing.T) {
	s, l := threeOf(t)
	var g *shot.Gather
	for _, c := range append(l, api.Chunk{}, api.Chunk{Index: 5, Term: 3, Last: true, Data: textOf(s)}) {
		takes(t, "a nil one", g, c, 0)
	}
	var zero shot.Gather
	takes(t, "one that no call made", &zero, l[1], 0)
	takes(t, "one that no call made", &zero, l[0], 5)
	takes(t, "one that no call made", &zero, l[1], 10)
	ends(t, "one that no call made", &zero, l[2], s)
}

// Rule R3: what is gathered is of its own.
func TestGatherSharesNothing(t *testing.T) {
	s, _ := threeOf(t)
	text := textOf(s)
	c := api.Chunk{Index: 5, Term: 3, Last: true, Data: text}
	g := shot.NewGather()
	one, _, _ := g.Take(c)
	two, _, _ := g.Take(c)
	one.Members[0] = 9
	if !slices.Equal(two.Members, s.Members) || unsafe.StringData(one.Data) == unsafe.StringData(text[len(text)-6:]) {
		t.Errorf("Take: an answer is one memory with another")
	}
}

// asks is a plain gathering, by the words of the promise.
type asks struct {
	begun bool
	c     api.Chunk
	text  string
}

func (a *asks) take(c api.Chunk) (api.Shot, bool, int) {
	if c.At == 0 {
		*a = asks{begun: true, c: c}
	} else if !a.begun || a.c.Index != c.Index || a.c.Term != c.Term {
		return api.Shot{}, false, 0
	} else if c.At != len(a.text) {
		return api.Shot{}, false, len(a.text)
	}
	a.text += c.Data
	if !c.Last {
		return api.Shot{}, false, len(a.text)
	}
	a.begun = false
	s, e := shot.Decode(a.text)
	if e != api.OK || s.Index != c.Index || s.Term != c.Term {
		return api.Shot{}, false, 0
	}
	return s, true, 0
}

// Promises 7.3 and 7.4: chunks of some snapshots in any order, again and again, held against the words; in order they give the snapshot.
func TestAnyChunks(t *testing.T) {
	for seed := range 200 {
		r := rand.New(rand.NewSource(int64(seed)))
		var all []api.Chunk
		var l []api.Chunk
		var s api.Shot
		for i := range 3 {
			s = api.Shot{Index: 1 + i/2, Term: 1 + i%2, Members: []int{0, 3}, Data: bytesOf(r.Intn(30))}
			l, _ = shot.Chunks(s, 1+r.Intn(12))
			all = append(all, l...)
		}
		g, a := shot.NewGather(), &asks{}
		for n := range 300 {
			c := all[r.Intn(len(all))]
			if place := len(a.text); r.Intn(3) > 0 {
				// One that goes on is tried often, so that snapshots come to their ends.
				for _, one := range all {
					if one.At == place && one.Index == a.c.Index && one.Term == a.c.Term {
						c = one
					}
				}
			}
			s, is, at := g.Take(c)
			ws, wis, wat := a.take(c)
			if !same(s, ws) || is != wis || at != wat {
				t.Fatalf("seed %d, chunk %d: %s, %v, %d, not %s, %v, %d", seed, n, told(s), is, at, told(ws), wis, wat)
			}
		}
		for i, c := range l {
			for range r.Intn(3) {
				// The last one would be the end, and the first one would begin anew, which is as good.
				if i < len(l)-1 {
					g.Take(c)
				}
			}
			if got, is, _ := g.Take(c); is != (i == len(l)-1) || is && !same(got, s) {
				t.Errorf("seed %d: the chunk %d in order: %s, %v", seed, i, told(got), is)
			}
		}
	}
}
