package model

import (
	"maps"

	"stowage/api"
	"stowage/meta"
)

// point is a point of the log: an index, the entry there and its outcome, and the machine behind it.
type point struct {
	index   int
	entry   api.Entry
	out     api.Out
	machine *meta.Machine
}

// trial holds events against a log, point by point.
type trial struct {
	begins map[int][]*claim // at which points events begin to wait
	waits  map[int]*claim   // those that have not fitted yet, by their numbers
	first  int              // the first one that does not fit, of those that are told of; else how many there are
}

// newTrial takes the events; those for which the log counts for nothing are judged at once.
func newTrial(length int, events []api.Event) *trial {
	t := &trial{begins: map[int][]*claim{}, waits: map[int]*claim{}, first: len(events)}
	all := put{}
	for number, v := range events {
		pieces := all.add(v.W)
		switch {
		case v.From < 0 || v.From > v.To || v.To > length:
			t.fail(number)
		case !needsNothing(v):
			c := &claim{Event: v, number: number, pieces: pieces, put: all}
			t.begins[v.From] = append(t.begins[v.From], c)
		}
	}
	return t
}

// fail takes note of an event that does not fit.
func (t *trial) fail(number int) {
	t.first = min(t.first, number)
}

// look holds all events against a point that may fit there. One behind another that does not fit counts no more.
func (t *trial) look(p point) {
	for _, c := range t.begins[p.index] {
		c.prepare()
		t.waits[c.number] = c
	}
	maps.DeleteFunc(t.waits, func(number int, c *claim) bool {
		return number > t.first || c.fits(p)
	})
	for number, c := range t.waits {
		if c.To == p.index {
			t.fail(number)
			delete(t.waits, number)
		}
	}
}
