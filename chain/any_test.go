package chain_test

import (
	"fmt"
	"math/rand"
	"runtime"
	"slices"
	"testing"

	"stowage/api"
	"stowage/chain"
)

// drawn is a version of that number, or, now and then, one that may not be.
func drawn(r *rand.Rand, id int) api.Version {
	if r.Intn(3) == 0 {
		return mark(id)
	}
	var sizes []int
	for range r.Intn(4) {
		sizes = append(sizes, 1+r.Intn(4096))
	}
	v := object(id, sizes...)
	if r.Intn(12) == 0 {
		v.Size++
	}
	return v
}

// Promises 13.1 and 13.3: drawn orders of Put and Drop, held against what was put and not dropped, each version by itself.
func TestAny(t *testing.T) {
	full, wrong, gone := 0, 0, 0
	for seed := range 30 {
		r := rand.New(rand.NewSource(int64(seed)))
		var l []api.Version
		kept := map[int]api.Version{}
		newest := func() int {
			top := 0
			for id := range kept {
				top = max(top, id)
			}
			return top
		}
		id := 0
		for step := range 150 {
			what := fmt.Sprintf("seed %d, step %d", seed, step)
			if r.Intn(4) > 0 {
				id = max(1, id+r.Intn(5)-1)
				v := drawn(r, id)
				got, e := chain.Put(l, v)
				switch {
				case chain.Check(v) != api.OK || id <= newest():
					noChain(t, what, got, e, api.ErrArg)
					wrong++
				case len(kept) == 32:
					noChain(t, what, got, e, api.ErrMany)
					full++
				default:
					l, kept[id] = got, v
					x, e := chain.Find(l, id)
					isVersion(t, what+", what was put", x, e, v, api.OK)
				}
			} else {
				id := 1 + r.Intn(id+2)
				got, e := chain.Drop(l, id)
				if _, is := kept[id]; is {
					l = got
					delete(kept, id)
					gone++
				} else {
					noChain(t, what, got, e, api.ErrNone)
				}
			}
			holds(t, what, l, kept, newest())
			if t.Failed() {
				return
			}
		}
	}
	if full < 100 || wrong < 100 || gone < 100 {
		t.Errorf("too little happened: %d full, %d wrong, %d gone", full, wrong, gone)
	}
}

// holds asks that a chain has just what is kept, and what follows from that.
func holds(t *testing.T, what string, l []api.Version, kept map[int]api.Version, newest int) {
	t.Helper()
	var want []api.Version
	var ids []string
	for id := newest; id > 0; id-- {
		v, is := kept[id]
		x, e := chain.Find(l, id)
		if !is {
			isVersion(t, what, x, e, api.Version{}, api.ErrNone)
			continue
		}
		isVersion(t, what, x, e, v, api.OK)
		want = append(want, v)
		for _, p := range v.Pieces {
			ids = append(ids, p.ID)
		}
	}
	isChain(t, what, l, api.OK, want...)
	x, e := chain.Latest(l)
	switch {
	case len(want) == 0:
		isVersion(t, what, x, e, api.Version{}, api.ErrNone)
	case want[0].Mark:
		isVersion(t, what, x, e, api.Version{}, api.ErrMark)
	default:
		isVersion(t, what, x, e, want[0], api.OK)
	}
	if got := chain.Ids(l); !slices.Equal(got, ids) {
		t.Errorf("%s: the ids %q, not %q", what, got, ids)
	}
	s, e := chain.Encode(l)
	if s != textOf(want) || e != api.OK {
		t.Errorf("%s: Encode: %v", what, e)
	}
	again, e := chain.Decode(s)
	isChain(t, what, again, e, want...)
}

// roomy is a list with others behind its end, which no call may touch.
func roomy(l []api.Version) []api.Version {
	room := append(slices.Clone(l), mark(77), mark(76), mark(75))
	for i, v := range room {
		room[i].Pieces = append(slices.Clone(v.Pieces), api.Piece{ID: "behind", Size: 7}, api.Piece{ID: "behind", Size: 6})[:len(v.Pieces)]
	}
	return room[:len(l)]
}

// untouched asks that a list is as it was made, also behind its end.
func untouched(t *testing.T, what string, l, made []api.Version) {
	t.Helper()
	behind := l[len(l) : len(l)+3]
	if !slices.EqualFunc(l, made, equal) || !slices.EqualFunc(behind, marks(77, 75), equal) {
		t.Errorf("%s: what was handed in is %s, and behind it %s", what, short(l), short(behind))
	}
	for _, v := range l {
		if rest := v.Pieces[len(v.Pieces) : len(v.Pieces)+2]; rest[0] != (api.Piece{ID: "behind", Size: 7}) || rest[1] != (api.Piece{ID: "behind", Size: 6}) {
			t.Errorf("%s: behind the pieces of %d stands %v", what, v.ID, rest)
		}
	}
}

// Rule R3: what is handed in is not changed, and what is answered is of its own memory, list by list and text by text.
func TestSharesNothing(t *testing.T) {
	made := []api.Version{object(9, 5, 6), mark(6), object(4, 7), object(3, 1, 2, 3), object(2)}
	l := roomy(made)
	v := roomy([]api.Version{object(12, 8, 8)})
	var all []span
	var held []any // what was answered stays, so that its memory is not another one's later on
	take := func(what string, got []api.Version, own ...span) {
		t.Helper()
		held = append(held, got)
		all = append(append(all, spans(got)...), own...)
		disjoint(t, what, all)
		untouched(t, what, l, made)
	}
	take("what is handed in", l, listSpan(l))
	take("what is handed in", v, listSpan(v))
	for range 2 {
		got, _ := chain.Put(l, v[0])
		take("Put", got, listSpan(got))
		for _, id := range []int{9, 6, 4, 3, 2} {
			got, _ := chain.Drop(l, id)
			take(fmt.Sprintf("Drop of %d", id), got, listSpan(got))
			x, _ := chain.Find(l, id)
			take(fmt.Sprintf("Find of %d", id), []api.Version{x})
		}
		x, _ := chain.Latest(l)
		take("Latest", []api.Version{x})
		ids := chain.Ids(l)
		held = append(held, ids)
		take("Ids", nil, listSpan(ids))
		for _, id := range ids {
			take("Ids", nil, textSpan(id))
		}
		s, _ := chain.Encode(l)
		held = append(held, s)
		take("Encode", nil, textSpan(s))
		got, _ = chain.Decode(s)
		take("Decode", got, listSpan(got))
	}
	if len(all) < 200 {
		t.Errorf("%d stretches of memory", len(all))
	}
	runtime.KeepAlive(held)
	chain.Check(l[0])
	chain.Pieces(l[0].Pieces)
	untouched(t, "Check", l, made)
	untouched(t, "Put", v, []api.Version{object(12, 8, 8)})
}

// Rule R3: calls that are refused change nothing, either.
func TestRefusedChangesNothing(t *testing.T) {
	made := marks(32, 1)
	l := roomy(made)
	chain.Put(l, mark(33))
	chain.Put(l, mark(5))
	chain.Drop(l, 99)
	chain.Find(l, 99)
	chain.Latest(l)
	untouched(t, "a full chain", l, made)
	made = []api.Version{object(3, 5), object(9, 6), mark(1)}
	l = roomy(made)
	chain.Put(l, mark(33))
	chain.Drop(l, 9)
	chain.Find(l, 9)
	chain.Latest(l)
	chain.Ids(l)
	chain.Encode(l)
	untouched(t, "no chain", l, made)
}
