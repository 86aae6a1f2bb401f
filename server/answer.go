package server

import (
	"strconv"

	"stowage/api"
	"stowage/http"
	"stowage/route"
)

// request is one of a row.
type request struct {
	last     bool // the connection is shut behind it
	head     bool // its answer has no body
	answered bool
	reply    api.Reply
}

// text is the bytes of the answer.
func (r *request) text() string {
	text, e := http.Answer(route.Status(r.reply.Code), headsOf(r.reply), r.body(), r.last)
	if e != api.OK {
		// The outcome that a token kept may have a digest that no head can tell.
		r.reply = api.Reply{Code: e}
		return r.text()
	}
	return text
}

// headsOf are the heads of an answer.
func headsOf(r api.Reply) []api.Pair {
	var l []api.Pair
	if r.ID != 0 {
		l = append(l, api.Pair{Name: "x-version", Value: strconv.Itoa(r.ID)})
	}
	if r.Sum != "" {
		l = append(l, api.Pair{Name: "etag", Value: r.Sum})
	}
	if r.Code == api.ErrLeader && r.Leader >= 0 {
		l = append(l, api.Pair{Name: "x-leader", Value: strconv.Itoa(r.Leader)})
	}
	return l
}

// body is the body of the answer.
func (r *request) body() string {
	switch {
	case r.head:
		return ""
	case r.reply.Code == api.OK:
		return r.reply.Body
	}
	return "error " + strconv.Itoa(int(r.reply.Code)) + "\n"
}
