package wal

import (
	"strconv"
	"strings"

	"stowage/api"
	"stowage/frame"
	"stowage/octet"
)

// Segments have the numbers from 1 to mostNumber.
const mostNumber = 1<<62 - 1

// segmentFile is what a segment's name begins with; its number follows.
const segmentFile = "w."

// mostKind is the greatest kind of an entry.
const mostKind = 255

// segment is a file of the log: its base, and some entries.
type segment struct {
	number  int
	index   int // of its base
	term    int // of its base
	entries []api.Entry
	places  []int // in the file: behind its base, and behind each of its entries
}

// begun is a segment without entries, and its file's bytes.
func begun(number, index, term int) (segment, string) {
	s := baseText(index, term)
	return segment{number: number, index: index, term: term, places: []int{len(s)}}, s
}

// with is the segment with more entries behind, and the bytes that these are in the file.
func (g segment) with(l []api.Entry) (segment, string) {
	text := ""
	for i := range len(l) {
		s := entryText(l[i])
		g.entries = append(g.entries, apart(l[i]))
		g.places = append(g.places, g.size()+len(s))
		text += s
	}
	return g, text
}

// first is the segment with its first n entries alone; what is laid behind them falls on none of the others.
func (g segment) first(n int) segment {
	g.entries = g.entries[:n:n]
	g.places = g.places[: n+1 : n+1]
	return g
}

// size is how many bytes the base and the entries are in the file.
func (g segment) size() int {
	return g.places[len(g.places)-1]
}

// end is the index and the term of the last entry, or the base.
func (g segment) end() (int, int) {
	n := len(g.entries)
	if n == 0 {
		return g.index, g.term
	}
	return g.index + n, g.entries[n-1].Term
}

// goesOn tells whether the segment begins where the one ahead ends.
func (g segment) goesOn(ahead segment) bool {
	index, term := ahead.end()
	return g.index == index && g.term == term
}

// file is the name of the segment's file.
func (g segment) file() string {
	return fileOf(g.number)
}

// fileOf is the name of a segment's file.
func fileOf(number int) string {
	return segmentFile + strconv.Itoa(number)
}

// numberOf is the number of a segment by its file's name; false, if it is none's.
func numberOf(file string) (int, bool) {
	number, err := strconv.Atoi(strings.TrimPrefix(file, segmentFile))
	if err != nil || number < 1 || number > mostNumber {
		return 0, false
	}
	// A number has one name, so one that is told otherwise (with a 0 ahead) is none's.
	return number, fileOf(number) == file
}

// readSegment takes a segment's file apart, as far as its frames are whole and right; false, if not even its base is.
func readSegment(number int, s string) (segment, bool, api.Errno) {
	body, _, e := frame.Unframe(s, 0)
	if e != api.OK {
		return segment{}, false, api.OK
	}
	index, term, e := readBase(body)
	if e != api.OK {
		return segment{}, false, api.ErrCorrupt
	}
	g, _ := begun(number, index, term)
	for range Wide {
		body, behind, e := frame.Unframe(s, g.size())
		if e != api.OK {
			return g, true, api.OK
		}
		entry, e := readEntry(body)
		if e != api.OK {
			return segment{}, false, api.ErrCorrupt
		}
		g.entries = append(g.entries, entry)
		g.places = append(g.places, behind)
	}
	if _, _, e := frame.Unframe(s, g.size()); e == api.OK {
		return segment{}, false, api.ErrCorrupt
	}
	return g, true, api.OK
}

// baseText is what stands in a file for a segment's base.
func baseText(index, term int) string {
	return framed(octet.Number(uint64(index)) + octet.Number(uint64(term)))
}

// readBase takes a base out of its frame's body.
func readBase(body string) (int, int, api.Errno) {
	r := octet.NewReader(body)
	index, term := r.Int(api.MaxTerm), r.Int(api.MaxTerm)
	return index, term, r.End()
}

// entryText is what stands in a file for an entry.
func entryText(entry api.Entry) string {
	return framed(octet.Number(uint64(entry.Term)) + octet.Number(uint64(entry.Kind)) + octet.Text(entry.Data))
}

// readEntry takes an entry out of its frame's body.
func readEntry(body string) (api.Entry, api.Errno) {
	r := octet.NewReader(body)
	entry := api.Entry{Term: r.Int(api.MaxTerm), Kind: r.Int(mostKind), Data: r.Text(api.MaxData)}
	return entry, r.End()
}

// framed is the frame of a body that has room in one, as all of this package have.
func framed(body string) string {
	s, _ := frame.Frame(body)
	return s
}

// refusal tells why an entry may not be.
func refusal(entry api.Entry) api.Errno {
	switch {
	case !isTerm(entry.Term), entry.Kind < 0, entry.Kind > mostKind:
		return api.ErrArg
	case len(entry.Data) > api.MaxData:
		return api.ErrLong
	}
	return api.OK
}

// isTerm tells whether a number may be a term, or a base's index.
func isTerm(n int) bool {
	return n >= 0 && n <= api.MaxTerm
}

// apart is the same entry, in memory of its own.
func apart(entry api.Entry) api.Entry {
	entry.Data = strings.Clone(entry.Data)
	return entry
}
