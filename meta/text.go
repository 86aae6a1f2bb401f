package meta

import (
	"slices"
	"strings"

	"stowage/api"
	"stowage/chain"
	"stowage/cmd"
	"stowage/names"
	"stowage/octet"
	"stowage/parts"
	"stowage/token"
)

// Save is a machine's text.
func (m *Machine) Save() string {
	if m == nil {
		return ""
	}
	var told strings.Builder
	told.WriteString(number(len(m.buckets.rows)))
	for _, r := range m.buckets.rows {
		told.WriteString(octet.Text(r.key))
		told.WriteString(keysText(r.thing))
		told.WriteString(uploadsText(r.thing))
	}
	table, _ := token.Encode(m.tokens) // what is kept is a table
	told.WriteString(octet.Text(table))
	told.WriteString(number(m.index))
	return told.String()
}

// Load is the machine that a text says.
func Load(s string) (*Machine, api.Errno) {
	r := octet.NewReader(s)
	m := New()
	for range r.Int(api.MaxBuckets) {
		name := r.Text(api.MaxKey) // no name is longer than a key may be; whether it may be is asked below
		m.buckets.rows = append(m.buckets.rows, row[string, *bucket]{name, readBucket(r, len(s))})
	}
	m.tokens = take(r, len(s), token.Decode)
	m.index = r.Int(api.MaxTerm)
	if r.End() != api.OK || !m.mayBe() {
		return nil, api.ErrForm
	}
	return m, api.OK
}

// number is the bytes of a number that is not below 0.
func number(n int) string {
	return octet.Number(uint64(n))
}

// keysText is the text of a bucket's keys.
func keysText(b *bucket) string {
	var told strings.Builder
	told.WriteString(number(len(b.keys.rows)))
	for _, r := range b.keys.rows {
		text, _ := chain.Encode(r.thing) // what is kept is a chain
		told.WriteString(octet.Text(r.key))
		told.WriteString(octet.Text(text))
	}
	return told.String()
}

// uploadsText is the text of a bucket's uploads.
func uploadsText(b *bucket) string {
	var told strings.Builder
	told.WriteString(number(len(b.uploads.rows)))
	for _, r := range b.uploads.rows {
		text, _ := parts.Encode(r.thing.parts) // what is kept is parts
		told.WriteString(number(r.key))
		told.WriteString(octet.Text(r.thing.key))
		told.WriteString(octet.Text(text))
	}
	return told.String()
}

// take takes a text of at most so many bytes from a reader, and what it says by a layer below, whose error becomes the reader's.
func take[T any](r *octet.Reader, most int, decode func(s string) ([]T, api.Errno)) []T {
	text := r.Text(most)
	if r.Err() != api.OK {
		return nil
	}
	l, e := decode(text)
	r.Fail(e)
	return l
}

// readBucket takes a bucket from a reader. It holds it against upper bounds alone, so that no text makes it take more.
func readBucket(r *octet.Reader, most int) *bucket {
	b := &bucket{}
	for range r.Int(api.MaxKeys) {
		key := r.Text(api.MaxKey)
		b.keys.rows = append(b.keys.rows, row[string, []api.Version]{key, take(r, most, chain.Decode)})
	}
	for range r.Int(api.MaxUploads) {
		id, key := r.Int(api.MaxTerm), r.Text(api.MaxKey)
		b.uploads.rows = append(b.uploads.rows, row[int, upload]{id, upload{key, take(r, most, parts.Decode)}})
	}
	return b
}

// mayBe tells what the reader can't: whether names may be, and rise, and nothing is of a later index than the machine's.
func (m *Machine) mayBe() bool {
	wrong := func(r row[string, *bucket]) bool { return !names.Bucket(r.key) || !r.thing.mayBe(m.index) }
	late := func(h api.Held) bool {
		_, e := cmd.DecodeOut(h.Out)
		return e != api.OK || h.At > m.index
	}
	return m.buckets.rise() && !slices.ContainsFunc(m.buckets.rows, wrong) && !slices.ContainsFunc(m.tokens, late)
}

// mayBe tells whether a bucket may be at an index.
func (b *bucket) mayBe(index int) bool {
	noKey := func(r row[string, []api.Version]) bool {
		return !names.Key(r.key) || len(r.thing) == 0 || r.thing[0].ID > index // the first version is the newest one
	}
	noUpload := func(r row[int, upload]) bool {
		return !names.Key(r.thing.key) || r.key < 1 || r.key > index // an index is from 1 on
	}
	return b.keys.rise() && b.uploads.rise() && !slices.ContainsFunc(b.keys.rows, noKey) && !slices.ContainsFunc(b.uploads.rows, noUpload)
}
