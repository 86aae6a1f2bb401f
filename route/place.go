package route

import (
	"strconv"
	"strings"

	"stowage/api"
	"stowage/names"
	"stowage/percent"
)

// What stands in paths in the place of a bucket.
const (
	nodesName  = "_nodes"
	expireName = "_expire"
)

// The forms of paths.
const (
	formRoot   = iota // /
	formNode          // /_nodes/N
	formExpire        // /_expire
	formBucket        // /B
	formObject        // /B/K
)

// place is what a path says.
type place struct {
	form        int
	bucket, key string
}

// placeOf is what a path says.
func placeOf(path string) (place, api.Errno) {
	said, e := percent.Unpath(path)
	if e != api.OK || !strings.HasPrefix(said, "/") {
		return place{}, api.ErrForm
	}
	var p place
	p.bucket, p.key, _ = strings.Cut(said[1:], "/")
	if p.key != "" && !names.Key(p.key) {
		return place{}, api.ErrForm
	}
	switch {
	case p.bucket == "" && p.key == "":
		p.form = formRoot
	case p.bucket == nodesName && p.key != "":
		p.form = formNode
	case p.bucket == expireName && p.key == "":
		p.form = formExpire
	case p.bucket == nodesName || p.bucket == expireName:
		return place{}, api.ErrNone
	case !names.Bucket(p.bucket):
		return place{}, api.ErrForm
	case p.key == "":
		p.form = formBucket
	default:
		p.form = formObject
	}
	return p, api.OK
}

// tell puts what a path says into a want; false, if it says no number where one must be.
func (p place) tell(w *api.Want) bool {
	switch p.form {
	case formNode:
		return nodeWord().read(w, p.key)
	case formBucket, formObject:
		bucket, key := namesOf(w)
		*bucket, *key = p.bucket, p.key
	}
	return true
}

// pathOf is a path of a form that says what a want has.
func pathOf(form int, w api.Want) string {
	bucket, key := namesOf(&w)
	switch form {
	case formNode:
		return "/" + nodesName + "/" + nodeWord().write(&w)
	case formExpire:
		return "/" + expireName
	case formBucket:
		return "/" + *bucket
	case formObject:
		return "/" + *bucket + "/" + *key
	}
	return "/"
}

// namesOf are the fields of a want in which the bucket and the key of its path are told.
func namesOf(w *api.Want) (bucket, key *string) {
	if w.Kind == api.WantCmd {
		return &w.Cmd.Bucket, &w.Cmd.Key
	}
	return &w.Bucket, &w.Key
}

// numberOf is the number that digits say, if they are one.
func numberOf(s string) (int, bool) {
	n, err := strconv.Atoi(s)
	// One form alone is written: no sign, no 0 ahead.
	if err != nil || n < 0 || n > api.MaxTerm || strconv.Itoa(n) != s {
		return 0, false
	}
	return n, true
}
