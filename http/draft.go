package http

import (
	"bytes"
	"strings"

	"stowage/api"
)

// The places of a request at which its reading can stand: ahead of what comes next.
const (
	atFirst  = iota // the first line
	atHead          // a line of the head
	atBody          // the bytes that content-length says
	atSize          // a chunk's line
	atChunk         // a chunk's bytes
	atBehind        // the end of a line behind them
	atTail          // a line behind the last chunk
	atEnd           // nothing: it is whole
)

// draft is a request as far as it was read.
type draft struct {
	req       api.Req
	place     int
	size      int // bytes that were read
	lines     int // of the head, or behind the last chunk
	hasLength bool
	chunked   bool
	left      int    // bytes of the body, or of the chunk, that are to come
	chunks    []byte // bytes of the chunks that were read
}

// take reads what stands at the front of bytes, if it is all there, and tells how many bytes that are; none, if it is not.
func (d *draft) take(b []byte) int {
	switch d.place {
	case atBody, atChunk:
		return d.takeBytes(b)
	case atBehind:
		return d.takeBehind(b)
	}
	line, n := nextLine(b)
	if n > 0 {
		d.readLine(line)
	}
	return n
}

// takeBytes takes the bytes that are left of the body, or of a chunk.
func (d *draft) takeBytes(b []byte) int {
	n := d.left
	if len(b) < n {
		return 0
	}
	if d.place == atChunk {
		d.chunks = append(d.chunks, b[:n]...)
		d.place = atBehind
	} else {
		d.req.Body = string(b[:n])
		d.place = atEnd
	}
	return n
}

// takeBehind takes the end of a line behind a chunk's bytes.
func (d *draft) takeBehind(b []byte) int {
	there := b[:min(len(b), len(lineEnd))]
	if !bytes.HasPrefix([]byte(lineEnd), there) {
		refuse(api.ErrBad)
	}
	if len(there) < len(lineEnd) {
		return 0
	}
	d.place = atSize
	return len(lineEnd)
}

// readLine reads a whole line.
func (d *draft) readLine(line string) {
	heed, end := func(api.Pair) {}, d.endChunks
	switch d.place {
	case atFirst:
		d.readFirst(line)
	case atSize:
		d.readSize(line)
	case atHead:
		heed, end = d.heed, d.endHead
		fallthrough // lines behind the last chunk are the same, but that their names count for nothing
	case atTail:
		if line == "" {
			end()
			return
		}
		if d.lines == api.MaxHeads {
			refuse(api.ErrHead)
		}
		d.lines++
		heed(pairOf(line))
	}
}

// readFirst reads the first line.
func (d *draft) readFirst(line string) {
	method, rest, _ := strings.Cut(line, " ")
	target, version, _ := strings.Cut(rest, " ")
	if !isMethodForm(method) || !isTarget(target) || version != protocol {
		refuse(api.ErrBad)
	}
	if !isMethod(method) {
		refuse(api.ErrMethod)
	}
	d.req.Method = method
	d.req.Path, d.req.Query, _ = strings.Cut(target, "?")
	d.place = atHead
}

// heed does what a line of the head says.
func (d *draft) heed(p api.Pair) {
	switch p.Name {
	case lengthName:
		if d.hasLength {
			refuse(api.ErrBad)
		}
		d.hasLength, d.left = true, lengthOf(p.Value)
	case codingName:
		if d.chunked {
			refuse(api.ErrBad)
		}
		if !strings.EqualFold(p.Value, "chunked") {
			refuse(api.ErrMethod)
		}
		d.chunked = true
	case connectionName:
		d.req.Close = d.req.Close || strings.EqualFold(p.Value, closeValue)
	default:
		d.req.Heads = append(d.req.Heads, p)
	}
}

// endHead comes to the body.
func (d *draft) endHead() {
	switch {
	case d.hasLength && d.chunked:
		refuse(api.ErrBad)
	case d.chunked:
		d.place = atSize
	case d.left > 0:
		d.place = atBody
	default:
		d.place = atEnd
	}
}

// readSize reads a chunk's line.
func (d *draft) readSize(line string) {
	d.left = sizeOf(line)
	if len(d.chunks)+d.left > api.MaxBody {
		refuse(api.ErrBody)
	}
	if d.left > 0 {
		d.place = atChunk
	} else {
		d.place, d.lines = atTail, 0
	}
}

// endChunks puts the chunks together.
func (d *draft) endChunks() {
	d.req.Body = string(d.chunks)
	d.place = atEnd
}
