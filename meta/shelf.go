package meta

import (
	"cmp"
	"slices"
)

// shelf has things by their names, or by their numbers, which rise.
type shelf[K cmp.Ordered, T any] struct {
	rows []row[K, T]
}

// row is a thing and what it is found by.
type row[K cmp.Ordered, T any] struct {
	key   K
	thing T
}

// find is where a key stands among rows, or would stand; and whether it is there.
func find[K cmp.Ordered, T any](rows []row[K, T], key K) (int, bool) {
	return slices.BinarySearchFunc(rows, key, func(r row[K, T], key K) int { return cmp.Compare(r.key, key) })
}

// get is the thing of a key, and whether there is one.
func (s *shelf[K, T]) get(key K) (T, bool) {
	at, there := find(s.rows, key)
	if !there {
		var nothing T
		return nothing, false
	}
	return s.rows[at].thing, true
}

// put lays a thing under a key, in the place of the one that was there, or among the others.
func (s *shelf[K, T]) put(key K, thing T) {
	at, there := find(s.rows, key)
	if !there {
		s.rows = slices.Insert(s.rows, at, row[K, T]{key: key})
	}
	s.rows[at].thing = thing
}

// drop takes the thing of a key away, if there is one.
func (s *shelf[K, T]) drop(key K) {
	if at, there := find(s.rows, key); there {
		s.rows = slices.Delete(s.rows, at, at+1)
	}
}

// rise tells whether each key is greater than the one ahead of it. What is read from a text may not be so.
func (s *shelf[K, T]) rise() bool {
	for i, r := range s.rows {
		if i > 0 && r.key <= s.rows[i-1].key {
			return false
		}
	}
	return true
}
