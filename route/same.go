package route

import (
	"slices"

	"stowage/api"
)

// same tells whether two wants are the same, in all fields.
func same(a, b api.Want) bool {
	return a.Kind == b.Kind && sameCmd(a.Cmd, b.Cmd) &&
		a.Bucket == b.Bucket && a.Key == b.Key && a.ID == b.ID && a.Head == b.Head &&
		a.Prefix == b.Prefix && a.Delimiter == b.Delimiter && a.After == b.After && a.Most == b.Most &&
		a.Node == b.Node && a.Add == b.Add && a.Body == b.Body
}

// sameCmd tells whether two commands are the same, in all fields.
func sameCmd(a, b api.Cmd) bool {
	return a.Kind == b.Kind && a.Token == b.Token && a.Bucket == b.Bucket && a.Key == b.Key &&
		a.ID == b.ID && a.N == b.N && a.Sum == b.Sum &&
		slices.Equal(a.Pieces, b.Pieces) && slices.Equal(a.Picks, b.Picks)
}
