package http

import (
	"strconv"
	"strings"

	"stowage/api"
)

// What stands in requests and answers.
const (
	protocol       = "HTTP/1.1"
	lengthName     = "content-length"
	codingName     = "transfer-encoding"
	connectionName = "connection"
	closeValue     = "close"
	blanks         = " \t"
)

// How many letters a method has at most, how many digits a length, how many sixteens a chunk's size.
const (
	maxMethod = 16
	maxLength = 10
	maxSize   = 8
)

// isMethodForm tells whether a text has the form of a method, known or not.
func isMethodForm(s string) bool {
	return len(s) >= 1 && len(s) <= maxMethod && all(s, isGreat)
}

// isMethod tells whether a text is one of the methods that are known.
func isMethod(s string) bool {
	switch s {
	case "GET", "HEAD", "PUT", "POST", "DELETE":
		return true
	}
	return false
}

// isTarget tells whether a text is a target.
func isTarget(s string) bool {
	return strings.HasPrefix(s, "/") && all(s, inTarget)
}

// isToken tells whether a text is a token.
func isToken(s string) bool {
	return s != "" && all(s, inToken)
}

// isOwn tells whether a name is one of those that a request or an answer sets by itself.
func isOwn(name string) bool {
	return name == lengthName || name == codingName || name == connectionName
}

// pairOf is the name and the value that a line of a head says.
func pairOf(line string) api.Pair {
	name, value, is := strings.Cut(line, ":")
	if !is || !isToken(name) || !all(value, inValue) {
		refuse(api.ErrBad)
	}
	return api.Pair{Name: strings.ToLower(name), Value: strings.Trim(value, blanks)}
}

// lengthOf is the number that a content-length says.
func lengthOf(value string) int {
	if len(value) < 1 || len(value) > maxLength || !all(value, isDigit) {
		refuse(api.ErrBad)
	}
	n, _ := strconv.Atoi(value)
	if n > api.MaxBody {
		refuse(api.ErrBody)
	}
	return n
}

// sizeOf is the number that a chunk's line says.
func sizeOf(line string) int {
	digits, more, _ := strings.Cut(line, ";")
	if len(digits) < 1 || len(digits) > maxSize || !all(digits, isSixteen) || !all(more, inValue) {
		refuse(api.ErrBad)
	}
	n, _ := strconv.ParseInt(digits, 16, 64)
	return int(n)
}

// all tells whether a function says so of each byte.
func all(s string, is func(c byte) bool) bool {
	for i := range len(s) {
		if !is(s[i]) {
			return false
		}
	}
	return true
}

// isGreat tells whether a byte is a great letter.
func isGreat(c byte) bool {
	return 'A' <= c && c <= 'Z'
}

// isDigit tells whether a byte is a digit.
func isDigit(c byte) bool {
	return '0' <= c && c <= '9'
}

// isSixteen tells whether a byte is a digit to the base of sixteen.
func isSixteen(c byte) bool {
	return isDigit(c) || 'a' <= c && c <= 'f' || 'A' <= c && c <= 'F'
}

// inTarget tells whether a byte may stand in a target.
func inTarget(c byte) bool {
	return c >= '!' && c <= '~' && c != '#'
}

// inToken tells whether a byte may stand in a token.
func inToken(c byte) bool {
	return isGreat(c) || 'a' <= c && c <= 'z' || isDigit(c) || strings.IndexByte("!#$%&'*+-.^_`|~", c) >= 0
}

// inValue tells whether a byte may stand in a value.
func inValue(c byte) bool {
	return c >= ' ' && c <= '~' || c == '\t'
}
