package gate

import (
	"stowage/api"
	"stowage/extent"
	"stowage/octet"
	"stowage/piece"
)

// Check tells whether a note may be.
func Check(n api.Note) bool {
	if n.Kind < api.NoteStore || n.Kind > api.NoteFetched || !isNode(n.From) || !isNode(n.To) || n.From == n.To {
		return false
	}
	if n.Yes && n.Kind != api.NoteStored && n.Kind != api.NoteFetched {
		return false
	}
	if n.Kind == api.NoteStore || n.Kind == api.NoteFetched && n.Yes {
		return isExtent(n.Data) && extent.ID(n.Data) == n.ID
	}
	return n.Data == "" && piece.IsDigest(n.ID)
}

// Encode is a note's text.
func Encode(n api.Note) (string, api.Errno) {
	if !Check(n) {
		return "", api.ErrArg
	}
	return number(n.Kind) + number(n.From) + number(n.To) + octet.Text(n.ID) + flag(n.Yes) + octet.Text(n.Data), api.OK
}

// Decode is the note that a text says.
func Decode(s string) (api.Note, api.Errno) {
	r := octet.NewReader(s)
	n := api.Note{Kind: r.Int(api.NoteFetched), From: r.Int(api.MaxNodes), To: r.Int(api.MaxNodes), ID: r.Text(piece.Digits), Yes: r.Bool(), Data: r.Text(api.MaxExtent)}
	// How its parts fit one another the reader can't tell.
	if r.End() != api.OK || !Check(n) {
		return api.Note{}, api.ErrForm
	}
	return n, api.OK
}

// isNode tells whether a number is a node.
func isNode(n int) bool {
	return n >= 0 && n < api.MaxNodes
}

// isExtent tells whether bytes are an extent.
func isExtent(s string) bool {
	return s != "" && len(s) <= api.MaxExtent
}

// number is the text of a number that is not below 0.
func number(n int) string {
	return octet.Number(uint64(n))
}

// flag is the text of yes or no.
func flag(yes bool) string {
	if yes {
		return number(1)
	}
	return number(0)
}
