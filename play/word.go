package play

import (
	"stowage/api"
	"stowage/percent"
)

// mostDigits is how many digits a number has, at most.
const mostDigits = 6

// words are those of a line behind its first one, as they are read.
type words struct {
	n    []int
	text string
}

// read reads the words of a line behind its first one.
func (v verb) read(l []string) (words, api.Errno) {
	var w words
	if v.bytes {
		if len(l) == 0 {
			return words{}, api.ErrForm
		}
		text, e := percent.Unpath(l[len(l)-1])
		if e != api.OK {
			return words{}, e
		}
		w.text = text
		l = l[:len(l)-1]
	}
	if len(l) < v.least || len(l) > v.most {
		return words{}, api.ErrForm
	}
	for _, s := range l {
		n, e := number(s)
		if e != api.OK {
			return words{}, e
		}
		w.n = append(w.n, n)
	}
	return w, api.OK
}

// number reads a number.
func number(s string) (int, api.Errno) {
	if s == "" || len(s) > mostDigits || s[0] == '0' && s != "0" {
		return 0, api.ErrForm
	}
	n := 0
	for i := range len(s) {
		if s[i] < '0' || s[i] > '9' {
			return 0, api.ErrForm
		}
		n = 10*n + int(s[i]-'0')
	}
	return n, api.OK
}
