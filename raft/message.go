package raft

import (
	"stowage/api"
	"stowage/octet"
)

// mostKind is the greatest number of an entry's kind.
const mostKind = 255

// Check tells whether a message may be.
func Check(m api.Msg) bool {
	if m.Kind < api.MsgVote || m.Kind > api.MsgShotted {
		return false
	}
	if !isNode(m.From) || !isNode(m.To) || m.From == m.To {
		return false
	}
	for _, n := range numbers(m) {
		if n < 0 || n > api.MaxTerm {
			return false
		}
	}
	if m.LogTerm > m.Term || len(m.Entries) > Many || len(m.Data) > api.MaxExtent {
		return false
	}
	return areEntries(m.Entries, m.LogTerm, m.Term)
}

// Encode is a message's text.
func Encode(m api.Msg) (string, api.Errno) {
	if !Check(m) {
		return "", api.ErrArg
	}
	text := ""
	for _, n := range numbers(m) {
		text += number(n)
	}
	text += flag(m.Yes) + number(len(m.Entries))
	for _, e := range m.Entries {
		text += number(e.Term) + number(e.Kind) + octet.Text(e.Data)
	}
	return text + octet.Text(m.Data), api.OK
}

// Decode is the message that a text says.
func Decode(s string) (api.Msg, api.Errno) {
	r := octet.NewReader(s)
	next := func() int { return r.Int(api.MaxTerm) }
	m := api.Msg{Kind: next(), From: next(), To: next(), Term: next(), Index: next(), LogTerm: next(), Commit: next(), Round: next(), At: next()}
	m.Yes = r.Bool()
	for range r.Int(Many) {
		m.Entries = append(m.Entries, api.Entry{Term: next(), Kind: r.Int(mostKind), Data: r.Text(api.MaxData)})
	}
	m.Data = r.Text(api.MaxExtent)
	// How its parts fit one another the reader can't tell.
	if r.End() != api.OK || !Check(m) {
		return api.Msg{}, api.ErrForm
	}
	return m, api.OK
}

// numbers are a message's numbers in the order of its text.
func numbers(m api.Msg) [9]int {
	return [9]int{m.Kind, m.From, m.To, m.Term, m.Index, m.LogTerm, m.Commit, m.Round, m.At}
}

// areEntries tells whether entries may stand behind one of the term ahead, in the term most.
func areEntries(l []api.Entry, ahead, most int) bool {
	for _, e := range l {
		if e.Term < ahead || e.Term > most || e.Kind < 0 || e.Kind > mostKind || len(e.Data) > api.MaxData {
			return false
		}
		ahead = e.Term
	}
	return true
}

// isNode tells whether a number is a node.
func isNode(n int) bool {
	return n >= 0 && n < api.MaxNodes
}

// number is the text of a number that is not below 0.
func number(n int) string {
	return octet.Number(uint64(n))
}

// flag is the text of yes or no.
func flag(yes bool) string {
	if yes {
		return number(1)
	}
	return number(0)
}
