package wal

import (
	"stowage/api"
)

// replace lets the log end ahead of an index, and lays entries behind; if there is no room for all of them, none.
func (l *Log) replace(at int, es []api.Entry) api.Errno {
	if e := l.endAhead(at); e != api.OK {
		return e
	}
	laid := l.lay(es)
	if laid == api.ErrFull {
		if e := l.endAhead(at); e != api.OK {
			return e
		}
	} else if laid != api.OK {
		return laid
	}
	if e := l.d.Sync(); e != api.OK {
		return e
	}
	return laid
}

// endAhead lets the log end ahead of an index. From the last one on, so that what a loss of power leaves is a log that ends early.
func (l *Log) endAhead(at int) api.Errno {
	for len(l.segments) > 1 && l.last().index >= at-1 {
		if e := l.d.Remove(l.last().file()); e != api.OK {
			return e
		}
		n := len(l.segments) - 1
		l.segments = l.segments[:n:n]
	}
	stays := at - 1 - l.last().index
	if len(l.last().entries) <= stays {
		return api.OK
	}
	g := l.last().first(stays)
	if e := l.d.Cut(g.file(), g.size()); e != api.OK {
		return e
	}
	l.segments[len(l.segments)-1] = g
	return api.OK
}

// lay lays entries behind the log: into the last segment, as long as it has places, then into new ones.
func (l *Log) lay(es []api.Entry) api.Errno {
	n := min(Wide-len(l.last().entries), len(es))
	if n > 0 {
		if e := l.fill(es[:n]); e != api.OK {
			return e
		}
	}
	for es = es[n:]; len(es) > 0; es = es[n:] {
		n = min(Wide, len(es))
		index, term := l.last().end()
		if e := l.begin(index, term, es[:n]); e != api.OK {
			return e
		}
	}
	return api.OK
}

// fill lays entries into the last segment.
func (l *Log) fill(es []api.Entry) api.Errno {
	g, text := l.last().with(es)
	if e := l.d.Append(g.file(), text); e != api.OK {
		return e
	}
	l.segments[len(l.segments)-1] = g
	return api.OK
}

// begin lays a new segment behind the others.
func (l *Log) begin(index, term int, es []api.Entry) api.Errno {
	number := 1
	if len(l.segments) > 0 {
		number = l.last().number + 1
	}
	// Such a segment would not be found again, so there is as good as no room for it.
	if number > mostNumber || index > api.MaxTerm {
		return api.ErrFull
	}
	g, base := begun(number, index, term)
	g, text := g.with(es)
	if e := l.d.Write(g.file(), base+text); e != api.OK {
		return e
	}
	l.segments = append(l.segments, g)
	return api.OK
}

// dropFirst takes the first n segments away, surely.
func (l *Log) dropFirst(n int) api.Errno {
	for i := range n {
		if e := l.d.Remove(l.segments[i].file()); e != api.OK {
			return e
		}
	}
	rest := l.segments[n:]
	l.segments = append(make([]segment, 0, len(rest)), rest...) // what went is not kept
	return l.d.Sync()
}

// renew lays a base, surely, and takes away all that was ahead: till then the log is as it was.
func (l *Log) renew(index, term int) api.Errno {
	if e := l.begin(index, term, nil); e != api.OK {
		return e
	}
	if e := l.d.Sync(); e != api.OK {
		return e
	}
	return l.dropFirst(len(l.segments) - 1)
}
