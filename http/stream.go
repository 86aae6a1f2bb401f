package http

import (
	"bytes"

	"stowage/api"
)

// lineEnd stands behind each line.
const lineEnd = "\r\n"

// refusal is what is thrown when bytes are no request.
type refusal struct {
	why api.Errno
}

// refuse throws a refusal.
func refuse(why api.Errno) {
	panic(refusal{why})
}

// stream is bytes of which requests are read, each once, so that bytes that come one by one are not gone over anew each time.
type stream struct {
	fed     []byte // what was not read yet
	now     draft
	refused api.Errno
}

// next is the next request, if it is whole.
func (s *stream) next() (draft, bool, api.Errno) {
	if s.refused == api.OK {
		s.refused = s.read()
	}
	if s.refused != api.OK {
		s.fed, s.now = nil, draft{}
		return draft{}, false, s.refused
	}
	if s.now.place != atEnd {
		return draft{}, false, api.OK
	}
	whole := s.now
	s.now = draft{}
	return whole, true, api.OK
}

// read reads on up to the end of the request, or of what there is.
func (s *stream) read() (e api.Errno) {
	defer func() {
		thrown := recover()
		if thrown == nil {
			return
		}
		no, is := thrown.(refusal)
		if !is {
			panic(thrown)
		}
		e = no.why
	}()
	for s.now.place != atEnd {
		n := s.now.take(s.fed)
		if n == 0 {
			break
		}
		s.fed = s.fed[n:]
		s.now.size += n
	}
	return api.OK
}

// nextLine is the line at the front of bytes, and how many bytes it has with its end: none, if it is not whole.
func nextLine(b []byte) (string, int) {
	ahead, _, whole := bytes.Cut(b, []byte(lineEnd))
	if !whole {
		ahead = bytes.TrimSuffix(b, []byte("\r")) // the 10 may come yet
	}
	if len(ahead) > api.MaxLine {
		refuse(api.ErrHead)
	}
	if !whole {
		return "", 0
	}
	if bytes.ContainsAny(ahead, lineEnd) {
		refuse(api.ErrBad)
	}
	return string(ahead), len(ahead) + len(lineEnd)
}
