package meta_test

import (
	"fmt"
	"math"
	"slices"
	"testing"

	"stowage/api"
	"stowage/meta"
	"stowage/names"
)

// Promise 17.1: versions by their numbers, the newest one by 0, markers, too.
func TestGet(t *testing.T) {
	m := driven(t, makes("one"), puts("one", "k", 1, pieces(5)...), marks("one", "k"), puts("one", "other", 2), puts("one", "k", 3))
	isVersion(t, m, "one", "k", 0, object(5, 3), api.OK)
	isVersion(t, m, "one", "k", 2, object(2, 1, pieces(5)...), api.OK)
	isVersion(t, m, "one", "k", 3, marker(3), api.OK)
	for _, id := range []int{1, 4, 6, -1, -5, 1 << 40, math.MaxInt, math.MinInt} {
		isVersion(t, m, "one", "k", id, api.Version{}, api.ErrVersion)
	}
	run(t, m, marks("one", "k"))
	isVersion(t, m, "one", "k", 0, api.Version{}, api.ErrMark)
	isVersion(t, m, "one", "k", 6, marker(6), api.OK)
	isVersion(t, m, "one", "k", 5, object(5, 3), api.OK)
	isVersion(t, m, "one", "other", 0, object(4, 2), api.OK)
	isVersion(t, m, "one", "other", 5, api.Version{}, api.ErrVersion)
	isChain(t, m, "one", "k", marker(6), object(5, 3), marker(3), object(2, 1, pieces(5)...))
	for _, key := range []string{"", "K", "kk", "k\x00", "othe", "z", rep("k", 2000)} {
		noKey(t, m, "one", key, api.ErrKey)
		noKey(t, m, "two", key, api.ErrNone)
	}
	run(t, m, marks("one", "gone"))
	isVersion(t, m, "one", "gone", 0, api.Version{}, api.ErrMark)
	isChain(t, m, "one", "gone", marker(7))
}

// Promise 17.1: listings are names.Fold of the keys whose newest version is no marker.
func TestList(t *testing.T) {
	m := driven(t, makes("one"), makes("two"))
	var keys []string
	for i, key := range []string{"c", "a/2", "a", "b/x/1", "a/1", "\xff", "b/", "b/x/2", "\x01", "A", "a/gone", "gone"} {
		run(t, m, puts("one", key, i))
		keys = append(keys, key)
	}
	run(t, m, marks("one", "a/gone"), marks("one", "gone"), marks("one", "a"), puts("one", "a", 5), marks("one", "never"), puts("two", "d", 1))
	keys = keys[:len(keys)-2]
	slices.Sort(keys)
	isKeys(t, m, "one", keys...)
	isKeys(t, m, "two", "d")
	texts := []string{"", "a", "a/", "b", "b/x", "/", "g", "z", "\xff", "gone"}
	for _, prefix := range texts {
		for _, delimiter := range texts {
			for _, after := range texts {
				for _, most := range []int{-1, 0, 1, 2, 5, 1000, math.MaxInt, math.MinInt} {
					want, more := names.Fold(keys, prefix, delimiter, after, most)
					got, rest, e := m.List("one", prefix, delimiter, after, most)
					if rest != more || e != api.OK || !slices.Equal(got, want) {
						t.Errorf("List(%q, %q, %q, %d): %v, %v, %v, not %v, %v", prefix, delimiter, after, most, got, rest, e, want, more)
					}
				}
			}
		}
	}
	// The newest version counts, not the others.
	id := m.Index() + 1
	run(t, m, puts("one", "gone", 9))
	isKeys(t, m, "one", append(slices.Clone(keys[:len(keys)-1]), "gone", "\xff")...)
	run(t, m, erases("one", "gone", id))
	isKeys(t, m, "one", keys...)
	run(t, m, makes("empty"))
	isKeys(t, m, "empty")
}

// Promise 17.1: the ids of all pieces, of versions and of parts, rising, each once, however often it stands somewhere.
func TestRefs(t *testing.T) {
	m := driven(t, makes("two"), makes("one"))
	same(t, "Refs", m.Refs(), []string{})
	ids := func(sizes ...int) []string {
		var l []string
		for _, size := range sizes {
			l = append(l, digits(size))
		}
		return l
	}
	run(t, m, puts("one", "k", 1, pieces(9, 5, 9)...), puts("one", "k", 1, pieces(5, 7)...), puts("two", "k", 1, pieces(7, 3)...), puts("two", "none", 1))
	same(t, "Refs", m.Refs(), ids(3, 5, 7, 9))
	run(t, m, begins("one", "u"), begins("two", "u"))
	run(t, m, brings("one", "u", 7, 1, 1, pieces(64, 9)...), brings("one", "u", 7, 2, 2, pieces(8)...), brings("two", "u", 8, 1, 1, pieces(8, 1)...))
	same(t, "Refs", m.Refs(), ids(1, 3, 5, 7, 8, 9, 64))
	run(t, m, marks("one", "k")) // what is marked is there still
	same(t, "Refs", m.Refs(), ids(1, 3, 5, 7, 8, 9, 64))
	run(t, m, brings("one", "u", 7, 2, 2, pieces(2)...)) // a part that is put again
	same(t, "Refs", m.Refs(), ids(1, 2, 3, 5, 7, 8, 9, 64))
	run(t, m, erases("one", "k", 3))
	same(t, "Refs", m.Refs(), ids(1, 2, 3, 5, 7, 8, 9, 64))
	run(t, m, joins("one", "u", 7, pick(1, 1))) // what was not picked goes
	same(t, "Refs", m.Refs(), ids(1, 3, 5, 7, 8, 9, 64))
	run(t, m, stops("two", "u", 8))
	same(t, "Refs", m.Refs(), ids(3, 5, 7, 9, 64))
	run(t, m, erases("two", "k", 5))
	same(t, "Refs", m.Refs(), ids(5, 7, 9, 64))
}

// Promise 17.2: a nil machine at each call.
func TestNil(t *testing.T) {
	var m *meta.Machine
	for _, c := range []api.Cmd{makes("one"), with("t", makes("one")), expires(1), {}} {
		for _, index := range []int{1, 0, -1, 1 << 40, math.MaxInt} {
			if o := m.Apply(index, c); o != failed(api.ErrArg) {
				t.Errorf("Apply: %v", o)
			}
		}
	}
	if m.Index() != 0 || len(m.Buckets()) != 0 || len(m.Tokens()) != 0 || len(m.Refs()) != 0 || m.Save() != "" {
		t.Errorf("%d, %v, %v, %v, %q", m.Index(), m.Buckets(), m.Tokens(), m.Refs(), m.Save())
	}
	noKey(t, m, "one", "k", api.ErrArg)
	noKey(t, m, "", "", api.ErrArg)
	if l, more, e := m.List("one", "", "", "", 9); len(l) != 0 || more || e != api.ErrArg {
		t.Errorf("List: %v, %v, %v", l, more, e)
	}
	if l, e := m.Uploads("one"); len(l) != 0 || e != api.ErrArg {
		t.Errorf("Uploads: %v, %v", l, e)
	}
	isParts(t, m, "one", "u", 1, api.ErrArg)
}

// Promise 17.1: names and numbers stand in their order, in whatever order they came.
func TestOrder(t *testing.T) {
	m := meta.New()
	var buckets, keys []string
	for i := range 30 {
		buckets = append(buckets, fmt.Sprintf("b-%d", i*11%30))
		keys = append(keys, fmt.Sprintf("%d", i*7%30))
		run(t, m, makes(buckets[i]))
	}
	slices.Sort(buckets)
	same(t, "Buckets", m.Buckets(), buckets)
	for _, key := range keys {
		run(t, m, puts("b-3", key, 1))
	}
	slices.Sort(keys)
	isKeys(t, m, "b-3", keys...)
	saidBy(t, m)
}
