package play_test

import (
	"fmt"
	"net/url"
	"regexp"
	"strconv"
	"strings"

	"stowage/api"
	"stowage/yard"
)

// The words of lines as patterns.
const (
	aNumber = ` (0|[1-9][0-9]{0,5})`
	aBytes  = ` ((?:[!"$&-/0-9:-;<=>@A-Z\[-~]|%[0-9A-Fa-f]{2})*)`
)

// row is a line of the table, by a pattern, with the act that it does.
type row struct {
	pattern *regexp.Regexp
	act     func(n []int) api.Act
	tells   func(y *yard.Yard, n []int) string // in the place of an act
}

// table is the table of the chapter.
func table() []row {
	one := func(kind int) func(n []int) api.Act {
		return func(n []int) api.Act { return api.Act{Kind: kind, Node: n[0]} }
	}
	r := func(s string) *regexp.Regexp {
		return regexp.MustCompile(`\A` + strings.NewReplacer(" N", aNumber, " B", aBytes).Replace(s) + `\z`)
	}
	return []row{
		{r("tick N"), func(n []int) api.Act { return api.Act{Kind: api.ActTick, N: n[0]} }, nil},
		{r("send N N B"), func(n []int) api.Act { return api.Act{Kind: api.ActBytes, Node: n[0], Conn: n[1]} }, nil},
		{r("shut N N"), func(n []int) api.Act { return api.Act{Kind: api.ActShut, Node: n[0], Conn: n[1]} }, nil},
		{r("down N N N"), func(n []int) api.Act { return api.Act{Kind: api.ActDown, Node: n[0], N: n[1], M: n[2]} }, nil},
		{r("up N"), one(api.ActUp), nil},
		{r("cut N"), func(n []int) api.Act { return api.Act{Kind: api.ActCut, Node: n[0], N: 1} }, nil},
		{r("join N"), one(api.ActCut), nil},
		{r("room N N"), func(n []int) api.Act { return api.Act{Kind: api.ActRoom, Node: n[0], N: n[1]} }, nil},
		{r("room N"), func(n []int) api.Act { return api.Act{Kind: api.ActRoom, Node: n[0], N: -1} }, nil},
		{r("out N N"), nil, func(y *yard.Yard, n []int) string { return "=" + name(y.Out(n[0], n[1])) }},
		{r("lead"), nil, func(y *yard.Yard, n []int) string { return strings.Replace(fmt.Sprint(y.Leader()), "-1", "none", 1) }},
		{r("node N"), nil, func(y *yard.Yard, n []int) string { return map[bool]string{true: "up", false: "down"}[y.Up(n[0])] }},
	}
}

// plain is a play as the chapter tells it.
type plain struct {
	table []row
	anew  *regexp.Regexp
	yard  *yard.Yard
	ticks int
	nodes int
}

func newPlain() *plain {
	return &plain{table: table(), anew: regexp.MustCompile(`\Anew` + aNumber + `\z`)}
}

// said is an error's text.
func said(e api.Errno) string {
	if e == 0 {
		return "ok"
	}
	return fmt.Sprint("error ", int(e))
}

// tell does a line.
func (p *plain) tell(s string) string {
	if m := p.anew.FindStringSubmatch(s); m != nil {
		var e api.Errno
		p.nodes, _ = strconv.Atoi(m[1])
		p.yard, e = yard.New(p.nodes)
		return said(e)
	}
	for _, r := range p.table {
		m := r.pattern.FindStringSubmatch(s)
		if m == nil {
			continue
		}
		if p.yard == nil {
			return "none"
		}
		return p.does(r, m[1:])
	}
	return "what"
}

// does does what a line of the table says.
func (p *plain) does(r row, words []string) string {
	var n []int
	for _, w := range words {
		k, _ := strconv.Atoi(w)
		n = append(n, k)
	}
	if r.act == nil {
		return r.tells(p.yard, n)
	}
	a := r.act(n)
	switch a.Kind {
	case api.ActBytes:
		a.Text, _ = url.PathUnescape(words[2])
	case api.ActTick:
		if p.ticks+a.N > 5000 {
			return "late"
		}
		if a.N <= 1000 {
			p.ticks += a.N
		}
	}
	return said(p.yard.Do(a))
}

// plainTell is what a play tells.
func plainTell(text string) string {
	if len(text) > 65536 {
		return "long\n"
	}
	p, told := newPlain(), ""
	for _, s := range strings.Split(text, "\n") {
		if s != "" {
			told += p.tell(s) + "\n"
		}
	}
	return told
}
