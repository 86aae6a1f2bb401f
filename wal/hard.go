package wal

import (
	"stowage/api"
	"stowage/disk"
	"stowage/frame"
	"stowage/octet"
	"stowage/whole"
)

// The files of what is hard: as it is, and as it is being laid.
const (
	hardFile  = "hard"
	hardSpare = "hard.new"
)

// noVote is the vote for nobody.
const noVote = -1

// hard is a node's term and vote.
type hard struct {
	term, vote int
}

// mayBe tells whether there are such a term and vote.
func (h hard) mayBe() bool {
	return isTerm(h.term) && h.vote >= noVote && h.vote < api.MaxNodes
}

// lay makes these the disk's.
func (h hard) lay(d *disk.Disk) api.Errno {
	// A number is not below 0, so votes are told from 0 on.
	s := framed(octet.Number(uint64(h.term)) + octet.Number(uint64(h.vote-noVote)))
	return whole.Lay(d, hardSpare, hardFile, s)
}

// readHard is what is hard on a disk.
func readHard(d *disk.Disk) (hard, api.Errno) {
	s, e := d.Read(hardFile)
	if e == api.ErrNone {
		return hard{vote: noVote}, api.OK
	}
	if e != api.OK {
		return hard{}, e
	}
	body, behind, e := frame.Unframe(s, 0)
	if e != api.OK || behind != len(s) {
		return hard{}, api.ErrCorrupt
	}
	r := octet.NewReader(body)
	h := hard{term: r.Int(api.MaxTerm), vote: r.Int(api.MaxNodes) + noVote}
	if r.End() != api.OK {
		return hard{}, api.ErrCorrupt
	}
	return h, api.OK
}
