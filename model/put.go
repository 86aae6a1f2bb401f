package model

import (
	"stowage/api"
	"stowage/extent"
)

// put are the extents of bodies, by their ids.
type put map[string]lump

// lump is an extent.
type lump struct{ bytes string }

// hasBody tells whether a command is wanted that has a body.
func hasBody(w api.Want) bool {
	return w.Kind == api.WantCmd && (w.Cmd.Kind == api.CmdPut || w.Cmd.Kind == api.CmdPart)
}

// add puts the extents of a want's body, and is its pieces.
func (l put) add(w api.Want) []api.Piece {
	if !hasBody(w) {
		return nil
	}
	var pieces []api.Piece
	for _, s := range extent.Cut(w.Body) {
		id := extent.ID(s)
		if _, was := l[id]; !was {
			l[id] = lump{s}
		}
		pieces = append(pieces, api.Piece{ID: id, Size: len(s)})
	}
	return pieces
}
