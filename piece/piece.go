// Package piece has what the layers share that tell of pieces of objects: what a digest's digits are, pieces, versions and parts in memory of their own, and pieces' text.
package piece

import (
	"strings"

	"stowage/api"
	"stowage/octet"
)

// Digits is how many digits a digest has, and an extent's id.
const Digits = 64

// IsDigest tells whether a text is the digits of a digest, or an extent's id, which has the same form.
func IsDigest(s string) bool {
	if len(s) != Digits {
		return false
	}
	for i := range len(s) {
		if c := s[i]; (c < '0' || c > '9') && (c < 'a' || c > 'f') {
			return false
		}
	}
	return true
}

// Apart are the same pieces, in memory of their own.
func Apart(l []api.Piece) []api.Piece {
	var own []api.Piece
	for _, p := range l {
		own = append(own, api.Piece{ID: strings.Clone(p.ID), Size: p.Size})
	}
	return own
}

// ApartVersion is the same version, in memory of its own.
func ApartVersion(v api.Version) api.Version {
	v.Sum = strings.Clone(v.Sum)
	v.Pieces = Apart(v.Pieces)
	return v
}

// ApartVersions are the same versions, in memory of their own.
func ApartVersions(l []api.Version) []api.Version {
	var own []api.Version
	for _, v := range l {
		own = append(own, ApartVersion(v))
	}
	return own
}

// ApartParts are the same parts, in memory of their own.
func ApartParts(l []api.Part) []api.Part {
	var own []api.Part
	for _, p := range l {
		p.Sum = strings.Clone(p.Sum)
		p.Pieces = Apart(p.Pieces)
		own = append(own, p)
	}
	return own
}

// IDs are pieces' ids, in memory of their own.
func IDs(l []api.Piece) []string {
	var ids []string
	for _, p := range l {
		ids = append(ids, strings.Clone(p.ID))
	}
	return ids
}

// Text is pieces' text: how many, and of each its id and its size.
func Text(l []api.Piece) string {
	var text strings.Builder
	text.WriteString(octet.Number(uint64(len(l))))
	for _, p := range l {
		text.WriteString(octet.Text(p.ID))
		text.WriteString(octet.Number(uint64(p.Size)))
	}
	return text.String()
}

// Read takes pieces from a reader. It holds them against the upper bounds alone, so that no text makes it take more; whether they may be is for the caller to ask.
func Read(r *octet.Reader) []api.Piece {
	var l []api.Piece
	for range r.Int(api.MaxPieces) {
		l = append(l, api.Piece{ID: r.Text(Digits), Size: r.Int(api.MaxExtent)})
	}
	return l
}
