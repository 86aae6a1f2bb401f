package route

import (
	"strconv"
	"strings"

	"stowage/api"
	"stowage/piece"
)

// word is a word of a query, and what its value has to do with a want.
type word struct {
	name  string
	read  func(w *api.Want, value string) bool // puts it in; false, if it may not be
	write func(w *api.Want) string
}

// bare is a word without a value.
func bare(name string) word {
	return word{name: name,
		read:  func(_ *api.Want, value string) bool { return value == "" },
		write: func(*api.Want) string { return "" },
	}
}

// text is a word with any value.
func text(name string, field func(w *api.Want) *string) word {
	return word{name: name,
		read:  func(w *api.Want, value string) bool { *field(w) = value; return true },
		write: func(w *api.Want) string { return *field(w) },
	}
}

// number is a word with a number from least to most.
func number(name string, least, most int, field func(w *api.Want) *int) word {
	return word{name: name,
		read: func(w *api.Want, value string) bool {
			n, is := numberOf(value)
			*field(w) = n
			return is && n >= least && n <= most
		},
		write: func(w *api.Want) string { return strconv.Itoa(*field(w)) },
	}
}

// nodeWord is the number of a node, which stands in a path.
func nodeWord() word {
	return number("", 0, api.MaxNodes-1, func(w *api.Want) *int { return &w.Node })
}

// readWhole takes a body as it is.
func readWhole(w *api.Want, body string) bool {
	w.Body = strings.Clone(body)
	return true
}

// writeWhole is a body as it is.
func writeWhole(w *api.Want) string {
	return strings.Clone(w.Body)
}

// readPicks takes a body's lines of picks; false, if they are none.
func readPicks(w *api.Want, body string) bool {
	for line := range strings.Lines(body) {
		rest, whole := strings.CutSuffix(line, "\n")
		digits, sum, _ := strings.Cut(rest, " ")
		n, is := numberOf(digits)
		if !whole || !is || !piece.IsDigest(sum) {
			return false
		}
		w.Cmd.Picks = append(w.Cmd.Picks, api.Pick{N: n, Sum: strings.Clone(sum)})
	}
	return true
}

// writePicks is picks as the lines of a body.
func writePicks(w *api.Want) string {
	var told strings.Builder
	for _, p := range w.Cmd.Picks {
		told.WriteString(strconv.Itoa(p.N) + " " + p.Sum + "\n")
	}
	return told.String()
}
