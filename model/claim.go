package model

import (
	"strings"

	"stowage/api"
	"stowage/cmd"
	"stowage/digest"
	"stowage/gate"
)

// claim is an event that waits for a point of the log at which it fits.
type claim struct {
	api.Event
	number int
	pieces []api.Piece // of its body
	put    put         // what all events put

	text string // of its command; none, if that may not be
}

// needsNothing tells whether an event fits whatever the log is.
func needsNothing(v api.Event) bool {
	if !isBare(v.R) {
		return false
	}
	switch v.R.Code {
	case api.ErrLeader, api.ErrBusy, api.ErrDown:
		return true
	case api.ErrFull:
		return v.W.Kind == api.WantNode || v.W.Kind == api.WantCmd
	case api.ErrThere, api.ErrNone, api.ErrArg, api.ErrConf:
		return v.W.Kind == api.WantNode
	}
	return false
}

// isBare tells whether an answer says nothing but its code.
func isBare(r api.Reply) bool {
	return r.ID == 0 && r.Sum == "" && r.Body == ""
}

// prepare writes the text of the command, which many entries are held against.
func (c *claim) prepare() {
	if c.W.Kind != api.WantCmd {
		return
	}
	command := c.W.Cmd
	if hasBody(c.W) {
		command.Pieces, command.Sum = c.pieces, digest.Hex(digest.Sum(c.W.Body))
	}
	c.text, _ = cmd.Encode(command) // beside an error it is none
}

// fits tells whether the event fits at a point from where it was asked on.
func (c *claim) fits(p point) bool {
	switch c.W.Kind {
	case api.WantNode:
		return p.index > c.From && p.entry.Kind == api.EntryConf && c.R.Code == api.OK && isBare(c.R)
	case api.WantCmd:
		return p.index > c.From && c.isDone(p)
	case api.WantBuckets, api.WantKeys, api.WantUploads, api.WantParts, api.WantRead:
		return c.isTold(p)
	}
	return false
}

// isDone tells whether the command stands at a point, and came out so.
func (c *claim) isDone(p point) bool {
	if c.text == "" || p.entry.Kind != api.EntryData || p.entry.Data != c.text {
		return false
	}
	return c.R.Code == api.Errno(p.out.Code) && c.R.ID == p.out.ID && c.R.Sum == p.out.Sum && c.R.Body == ""
}

// isTold tells whether the machine answers so at a point.
func (c *claim) isTold(p point) bool {
	r, pieces := gate.Tell(p.machine, c.W)
	if c.R.Code != r.Code || c.R.ID != r.ID || c.R.Sum != r.Sum {
		return false
	}
	rest, begins := strings.CutPrefix(c.R.Body, r.Body)
	for _, piece := range pieces {
		x, was := c.put[piece.ID]
		if !begins || !was {
			return false
		}
		rest, begins = strings.CutPrefix(rest, x.bytes)
	}
	return begins && rest == ""
}
