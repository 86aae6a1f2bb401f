package route

import (
	"slices"
	"strings"

	"stowage/api"
	"stowage/percent"
)

// row is a row of the table.
type row struct {
	method string
	form   int      // of the path
	want   api.Want // without what path, words, body and token say
	must   []word
	may    []word
	read   func(w *api.Want, body string) bool // puts a body in; nil, if the row has none
	write  func(w *api.Want) string
}

// rows are those of the table, in their order.
func rows() []row {
	id := func(w *api.Want) *int { return &w.ID }
	cmdID := func(w *api.Want) *int { return &w.Cmd.ID }
	part := number("part", 1, api.MaxPart, func(w *api.Want) *int { return &w.Cmd.N })
	upload := number("upload", 1, api.MaxTerm, id)
	version := number("version", 1, api.MaxTerm, id)
	cmdUpload := number("upload", 1, api.MaxTerm, cmdID)
	cmdVersion := number("version", 1, api.MaxTerm, cmdID)
	return []row{
		{method: "GET", form: formRoot, want: api.Want{Kind: api.WantBuckets}},
		{method: "PUT", form: formNode, want: api.Want{Kind: api.WantNode, Add: true}},
		{method: "DELETE", form: formNode, want: api.Want{Kind: api.WantNode}},
		{method: "POST", form: formExpire, want: command(api.CmdExpire), must: []word{number("upto", 0, api.MaxTerm, cmdID)}},
		{method: "PUT", form: formBucket, want: command(api.CmdMake)},
		{method: "DELETE", form: formBucket, want: command(api.CmdDrop)},
		{method: "GET", form: formBucket, want: api.Want{Kind: api.WantUploads}, must: []word{bare("uploads")}},
		{method: "GET", form: formBucket, want: api.Want{Kind: api.WantKeys, Most: 100}, may: listWords()},
		{method: "PUT", form: formObject, want: command(api.CmdPart), must: []word{cmdUpload, part}, read: readWhole, write: writeWhole},
		{method: "PUT", form: formObject, want: command(api.CmdPut), read: readWhole, write: writeWhole},
		{method: "GET", form: formObject, want: api.Want{Kind: api.WantParts}, must: []word{upload}},
		{method: "GET", form: formObject, want: api.Want{Kind: api.WantRead}, may: []word{version}},
		{method: "HEAD", form: formObject, want: api.Want{Kind: api.WantRead, Head: true}, may: []word{version}},
		{method: "DELETE", form: formObject, want: command(api.CmdErase), must: []word{cmdVersion}},
		{method: "DELETE", form: formObject, want: command(api.CmdStop), must: []word{cmdUpload}},
		{method: "DELETE", form: formObject, want: command(api.CmdMark)},
		{method: "POST", form: formObject, want: command(api.CmdBegin), must: []word{bare("uploads")}},
		{method: "POST", form: formObject, want: command(api.CmdJoin), must: []word{cmdUpload}, read: readPicks, write: writePicks},
	}
}

// command is that a command is wanted.
func command(kind int) api.Want {
	return api.Want{Kind: api.WantCmd, Cmd: api.Cmd{Kind: kind}}
}

// listWords are the words of a listing.
func listWords() []word {
	return []word{
		text("prefix", func(w *api.Want) *string { return &w.Prefix }),
		text("delimiter", func(w *api.Want) *string { return &w.Delimiter }),
		text("after", func(w *api.Want) *string { return &w.After }),
		number("most", 1, 1000, func(w *api.Want) *int { return &w.Most }),
	}
}

// rowsAt are the rows of a form of path and a method.
func rowsAt(form int, method string) []row {
	return slices.DeleteFunc(rows(), func(r row) bool { return r.form != form || r.method != method })
}

// rowFor is that of some rows which counts for a query: those with words that must be stand ahead.
func rowFor(l []row, query []api.Pair) (row, bool) {
	for _, r := range l {
		if len(r.must) == 0 {
			return r, true
		}
		if _, is := percent.Get(query, r.must[0].name); is {
			return r, true
		}
	}
	return row{}, false
}

// readWords puts what a query says into a want; false, if it may not say that.
func (r row) readWords(w *api.Want, query []api.Pair) bool {
	known := 0
	for i, word := range slices.Concat(r.must, r.may) {
		value, is := percent.Get(query, word.name)
		if !is && i < len(r.must) || is && !word.read(w, value) {
			return false
		}
		if is {
			known++
		}
	}
	// Others, and those that are there twice, are too many.
	return known == len(query)
}

// readBody puts what a body says into a want; false, if it may not say that.
func (r row) readBody(w *api.Want, body string) bool {
	if r.read == nil {
		return body == ""
	}
	return r.read(w, body)
}

// begins tells whether a want is one of the row's kind.
func (r row) begins(w api.Want) bool {
	return r.want.Kind == w.Kind && r.want.Cmd.Kind == w.Cmd.Kind && r.want.Add == w.Add && r.want.Head == w.Head
}

// request is the request of a row that says what a want has.
func (r row) request(w api.Want) api.Req {
	q := api.Req{Method: r.method, Path: percent.Path(pathOf(r.form, w))}
	q.Query, _ = percent.Query(r.pairs(w)) // a row has few words, and all have names
	if w.Cmd.Token != "" {
		q.Heads = []api.Pair{{Name: tokenName, Value: strings.Clone(w.Cmd.Token)}}
	}
	if r.write != nil {
		q.Body = r.write(&w)
	}
	return q
}

// pairs are the words of a row that say what a want has; those that say what counts without them are left out.
func (r row) pairs(w api.Want) []api.Pair {
	var l []api.Pair
	for i, word := range slices.Concat(r.must, r.may) {
		if value := word.write(&w); i < len(r.must) || value != word.write(&r.want) {
			l = append(l, api.Pair{Name: word.name, Value: value})
		}
	}
	return l
}
