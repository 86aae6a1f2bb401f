package cmd

import (
	"strings"

	"stowage/api"
	"stowage/octet"
	"stowage/piece"
)

// text is a command's text.
func text(c api.Cmd) string {
	has := fieldsOf(c.Kind)
	var told strings.Builder
	tell := func(field fields, s string) {
		if has&field != 0 {
			told.WriteString(s)
		}
	}
	told.WriteString(number(c.Kind))
	tell(tokenField, octet.Text(c.Token))
	tell(bucketField, octet.Text(c.Bucket))
	tell(keyField, octet.Text(c.Key))
	tell(idField, number(c.ID))
	tell(nField, number(c.N))
	tell(sumField, octet.Text(c.Sum))
	tell(piecesField, piece.Text(c.Pieces))
	tell(picksField, picksText(c.Picks))
	return told.String()
}

// read takes a command from a reader. It holds it against upper bounds alone, so that no text makes it take more; no name is longer than a key may be.
func read(r *octet.Reader) api.Cmd {
	c := api.Cmd{Kind: r.Int(api.CmdExpire)}
	has := fieldsOf(c.Kind)
	take := func(field fields, from func()) {
		if has&field != 0 {
			from()
		}
	}
	take(tokenField, func() { c.Token = r.Text(api.MaxKey) })
	take(bucketField, func() { c.Bucket = r.Text(api.MaxKey) })
	take(keyField, func() { c.Key = r.Text(api.MaxKey) })
	take(idField, func() { c.ID = r.Int(api.MaxTerm) })
	take(nField, func() { c.N = r.Int(api.MaxPart) })
	take(sumField, func() { c.Sum = r.Text(piece.Digits) })
	take(piecesField, func() { c.Pieces = piece.Read(r) })
	take(picksField, func() { c.Picks = readPicks(r) })
	return c
}

// picksText is picks' text: how many, and of each its number and its digest.
func picksText(l []api.Pick) string {
	var told strings.Builder
	told.WriteString(number(len(l)))
	for _, k := range l {
		told.WriteString(number(k.N))
		told.WriteString(octet.Text(k.Sum))
	}
	return told.String()
}

// readPicks takes picks from a reader.
func readPicks(r *octet.Reader) []api.Pick {
	var l []api.Pick
	for range r.Int(api.MaxPart) {
		l = append(l, api.Pick{N: r.Int(api.MaxPart), Sum: r.Text(piece.Digits)})
	}
	return l
}
