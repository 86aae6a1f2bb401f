package cmd

import (
	"slices"

	"stowage/api"
	"stowage/chain"
	"stowage/names"
	"stowage/piece"
)

// fields is a set of a command's fields.
type fields uint

// The fields beside the kind, in the order in which a text tells them.
const (
	tokenField fields = 1 << iota
	bucketField
	keyField
	idField
	nField
	sumField
	piecesField
	picksField
)

// fieldsOf are the fields that a kind has; none, if it is no kind.
func fieldsOf(kind int) fields {
	const ofBucket = tokenField | bucketField
	const ofKey = ofBucket | keyField
	const ofObject = sumField | piecesField
	switch kind {
	case api.CmdMake, api.CmdDrop:
		return ofBucket
	case api.CmdPut:
		return ofKey | ofObject
	case api.CmdMark, api.CmdBegin:
		return ofKey
	case api.CmdErase, api.CmdStop:
		return ofKey | idField
	case api.CmdPart:
		return ofKey | idField | nField | ofObject
	case api.CmdJoin:
		return ofKey | idField | picksField
	case api.CmdExpire:
		return idField
	}
	return 0
}

// fits tells whether a field is as it should be: right, if it is one of the set, and nothing, if it is not.
func (has fields) fits(field fields, right, nothing bool) bool {
	if has&field != 0 {
		return right
	}
	return nothing
}

// namesFit tells whether a command's names are as its fields ask.
func namesFit(c api.Cmd, has fields) bool {
	return has.fits(tokenField, c.Token == "" || names.Token(c.Token), c.Token == "") &&
		has.fits(bucketField, names.Bucket(c.Bucket), c.Bucket == "") &&
		has.fits(keyField, names.Key(c.Key), c.Key == "")
}

// numbersFit tells whether a command's numbers are as its fields ask.
func numbersFit(c api.Cmd, has fields) bool {
	leastID := 1
	if c.Kind == api.CmdExpire {
		leastID = 0 // ahead of all entries no token is old
	}
	return has.fits(idField, within(c.ID, leastID, api.MaxTerm), c.ID == 0) &&
		has.fits(nField, within(c.N, 1, api.MaxPart), c.N == 0)
}

// digestsFit tells whether a command's digest, and its lists of digests, are as its fields ask.
func digestsFit(c api.Cmd, has fields) bool {
	return has.fits(sumField, piece.IsDigest(c.Sum), c.Sum == "") &&
		has.fits(piecesField, areObject(c.Pieces), len(c.Pieces) == 0) &&
		has.fits(picksField, arePicks(c.Picks), len(c.Picks) == 0)
}

// areObject tells whether pieces may be an object.
func areObject(l []api.Piece) bool {
	size, e := chain.Pieces(l)
	return e == api.OK && size <= api.MaxObject
}

// arePicks tells whether picks may be. Whether they name parts that are there, in order, is asked when they are put together.
func arePicks(l []api.Pick) bool {
	wrong := func(k api.Pick) bool { return !within(k.N, 0, api.MaxPart) || !piece.IsDigest(k.Sum) }
	return len(l) <= api.MaxPart && !slices.ContainsFunc(l, wrong)
}
