package server

import (
	"slices"

	"stowage/api"
	"stowage/http"
	"stowage/route"
)

// conn is a connection.
type conn struct {
	shut   bool
	reader *http.Reader
	row    []*request // those that were read and are not answered to it yet
	out    []byte
}

// newConn is a connection on which nothing came.
func newConn() conn {
	return conn{reader: http.New()}
}

// feed takes bytes. Behind a last request they would never be read.
func (c *conn) feed(b string) {
	if !c.ends() {
		c.reader.Feed(b) // a reader that has refused has a last one in the row
	}
}

// ends tells whether a last request is in the row.
func (c *conn) ends() bool {
	return slices.ContainsFunc(c.row, func(r *request) bool { return r.last })
}

// read reads requests, as many as there are places in the row, and tells whether there was one.
func (s *Server) read(c *conn) bool {
	more := false
	for !c.shut && len(c.row) < api.MaxRow && !c.ends() {
		q, is, e := c.reader.Next()
		if !is && e == api.OK {
			break
		}
		c.row = append(c.row, s.begin(q, e))
		more = true
	}
	return more
}

// begin asks the gate for what a request wants; an error is the answer, that of the reader a last one.
func (s *Server) begin(q api.Req, e api.Errno) *request {
	if e != api.OK {
		return &request{last: true, answered: true, reply: api.Reply{Code: e}}
	}
	r := &request{last: q.Close, head: q.Method == "HEAD"}
	w, e := route.Route(q)
	tag := 0
	if e == api.OK {
		tag, e = s.gate.Ask(w)
	}
	if e != api.OK {
		r.answered, r.reply = true, api.Reply{Code: e}
		return r
	}
	s.waits[tag] = r
	return r
}

// send lets the answers go out that are there, in the order of the row.
func (c *conn) send() {
	for len(c.row) > 0 && c.row[0].answered {
		first := c.row[0]
		c.out = append(c.out, first.text()...)
		c.row = slices.Delete(c.row, 0, 1)
		if first.last {
			*c = conn{shut: true, out: c.out}
		}
	}
}
