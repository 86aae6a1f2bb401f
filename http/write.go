package http

import (
	"slices"
	"strconv"
	"strings"

	"stowage/api"
)

// The codes that an answer may have.
const (
	minCode = 100
	maxCode = 999
)

// maxWritten is how many heads are written at most: two lines of a head are kept for the length and the connection.
const maxWritten = api.MaxHeads - 2

// Write is a request's bytes.
func Write(r api.Req) (string, api.Errno) {
	if !isMethod(r.Method) || !isTarget(r.Path) || strings.Contains(r.Path, "?") || !all(r.Query, inTarget) {
		return "", api.ErrForm
	}
	if !areHeads(r.Heads) || len(r.Body) > api.MaxBody {
		return "", api.ErrForm
	}
	first := r.Method + " " + targetOf(r) + " " + protocol
	if isLong(first) {
		return "", api.ErrForm
	}
	return laid(first, r.Body != "", r.Heads, r.Close, r.Body), api.OK
}

// Answer is an answer's bytes.
func Answer(code int, heads []api.Pair, body string, last bool) (string, api.Errno) {
	if code < minCode || code > maxCode {
		return "", api.ErrArg
	}
	if !areHeads(heads) {
		return "", api.ErrForm
	}
	first := protocol + " " + strconv.Itoa(code) + " Status"
	return laid(first, true, heads, last, body), api.OK
}

// targetOf is a request's target.
func targetOf(r api.Req) string {
	if r.Query == "" {
		return r.Path
	}
	return r.Path + "?" + r.Query
}

// areHeads tells whether heads may be written.
func areHeads(l []api.Pair) bool {
	return len(l) <= maxWritten && !slices.ContainsFunc(l, func(p api.Pair) bool { return !isHead(p) })
}

// isHead tells whether a name and a value may be written as a line of a head, and are read as they are.
func isHead(p api.Pair) bool {
	if !isToken(p.Name) || strings.ToLower(p.Name) != p.Name || isOwn(p.Name) {
		return false
	}
	return all(p.Value, inValue) && strings.Trim(p.Value, blanks) == p.Value && !isLong(headLine(p.Name, p.Value))
}

// isLong tells whether a line is too long.
func isLong(line string) bool {
	return len(line) > api.MaxLine
}

// headLine is a line of a head.
func headLine(name, value string) string {
	return name + ": " + value
}

// laid is a first line, a head and a body as bytes.
func laid(first string, tellLength bool, heads []api.Pair, last bool, body string) string {
	lines := []string{first}
	if tellLength {
		lines = append(lines, headLine(lengthName, strconv.Itoa(len(body))))
	}
	for _, p := range heads {
		lines = append(lines, headLine(p.Name, p.Value))
	}
	if last {
		lines = append(lines, headLine(connectionName, closeValue))
	}
	return strings.Join(lines, lineEnd) + lineEnd + lineEnd + body
}
