package meta_test

import (
	"maps"
	"slices"
	"testing"

	"stowage/api"
	"stowage/chain"
	"stowage/cmd"
	"stowage/meta"
	"stowage/names"
	"stowage/parts"
)

// plain is a machine that keeps all in maps, as the words of the chapter say, and shares nothing with the one that is tried but the layers below.
type plain struct {
	buckets map[string]*plainBucket
	kept    map[string]plainKept
	index   int
}
type plainBucket struct {
	keys    map[string]map[int]api.Version
	uploads map[int]*plainUpload
}
type plainUpload struct {
	key   string
	parts map[int]api.Part
}
type plainKept struct {
	sum string
	out api.Out
	at  int
}

func newPlain() *plain {
	return &plain{buckets: map[string]*plainBucket{}, kept: map[string]plainKept{}}
}

// apply does a command.
func (p *plain) apply(index int, c api.Cmd) api.Out {
	if index <= p.index || index > 1<<40 {
		return failed(api.ErrArg)
	}
	p.index = index
	if cmd.Check(c) != api.OK {
		return failed(api.ErrArg)
	}
	if c.Kind == api.CmdExpire {
		before := len(p.kept)
		maps.DeleteFunc(p.kept, func(_ string, k plainKept) bool { return k.at <= c.ID })
		return api.Out{ID: before - len(p.kept)}
	}
	if c.Token == "" {
		return p.do(c)
	}
	sum, _ := cmd.Digest(c)
	if k, is := p.kept[c.Token]; is {
		if k.sum != sum {
			return failed(api.ErrClash)
		}
		return k.out
	}
	if len(p.kept) == 64 {
		return failed(api.ErrMany)
	}
	o := p.do(c)
	p.kept[c.Token] = plainKept{sum, o, index}
	return o
}

// do does what a command wants: the table's rows.
func (p *plain) do(c api.Cmd) api.Out {
	b := p.buckets[c.Bucket]
	if c.Kind == api.CmdMake {
		if b != nil {
			return failed(api.ErrThere)
		}
		if len(p.buckets) == 32 {
			return failed(api.ErrMany)
		}
		p.buckets[c.Bucket] = &plainBucket{map[string]map[int]api.Version{}, map[int]*plainUpload{}}
		return api.Out{}
	}
	if b == nil {
		return failed(api.ErrNone)
	}
	u := b.uploads[c.ID]
	noUpload := u == nil || u.key != c.Key
	switch c.Kind {
	case api.CmdDrop:
		if len(b.keys)+len(b.uploads) > 0 {
			return failed(api.ErrFilled)
		}
		delete(p.buckets, c.Bucket)
		return api.Out{}
	case api.CmdPut:
		return p.lay(b, c.Key, api.Version{Size: sizeOf(c.Pieces), Sum: c.Sum, Pieces: c.Pieces})
	case api.CmdMark:
		return p.lay(b, c.Key, api.Version{Mark: true})
	case api.CmdErase:
		if b.keys[c.Key] == nil {
			return failed(api.ErrKey)
		}
		if _, is := b.keys[c.Key][c.ID]; !is {
			return failed(api.ErrVersion)
		}
		delete(b.keys[c.Key], c.ID)
		if len(b.keys[c.Key]) == 0 {
			delete(b.keys, c.Key)
		}
		return api.Out{ID: c.ID}
	case api.CmdBegin:
		if len(b.uploads) == 16 {
			return failed(api.ErrMany)
		}
		b.uploads[p.index] = &plainUpload{c.Key, map[int]api.Part{}}
		return api.Out{ID: p.index}
	}
	if noUpload {
		return failed(api.ErrUpload)
	}
	switch c.Kind {
	case api.CmdPart:
		u.parts[c.N] = api.Part{N: c.N, Size: sizeOf(c.Pieces), Sum: c.Sum, Pieces: c.Pieces}
		return api.Out{ID: c.N, Sum: c.Sum}
	case api.CmdJoin:
		v, e := parts.Join(u.list(), c.Picks)
		if e != api.OK {
			return failed(e)
		}
		o := p.lay(b, c.Key, v)
		if o.Code == 0 {
			delete(b.uploads, c.ID)
		}
		return o
	}
	delete(b.uploads, c.ID)
	return api.Out{ID: c.ID}
}

// lay lays a version at the index under a key.
func (p *plain) lay(b *plainBucket, key string, v api.Version) api.Out {
	if b.keys[key] == nil && len(b.keys) == 256 || len(b.keys[key]) == 32 {
		return failed(api.ErrMany)
	}
	if b.keys[key] == nil {
		b.keys[key] = map[int]api.Version{}
	}
	v.ID = p.index
	b.keys[key][v.ID] = v
	return api.Out{ID: v.ID, Sum: v.Sum}
}

// list are an upload's parts.
func (u *plainUpload) list() []api.Part {
	var l []api.Part
	for _, n := range slices.Sorted(maps.Keys(u.parts)) {
		l = append(l, u.parts[n])
	}
	return l
}

// chain is a key's chain.
func (b *plainBucket) chain(key string) []api.Version {
	var l []api.Version
	for _, id := range slices.Sorted(maps.Keys(b.keys[key])) {
		l = append([]api.Version{b.keys[key][id]}, l...)
	}
	return l
}

// tokens are the tokens that are kept.
func (p *plain) tokens() []api.Held {
	var l []api.Held
	for _, name := range slices.Sorted(maps.Keys(p.kept)) {
		k := p.kept[name]
		h := held(api.Cmd{}, k.out, k.at)
		h.Token, h.Sum = name, k.sum
		l = append(l, h)
	}
	return l
}

// said is what its text says.
func (p *plain) said(t *testing.T) said {
	t.Helper()
	s := said{table: tableText(t, p.tokens()...), index: uint64(p.index)}
	for _, name := range slices.Sorted(maps.Keys(p.buckets)) {
		b := p.buckets[name]
		x := saidBucket{name: name}
		for _, key := range slices.Sorted(maps.Keys(b.keys)) {
			x.keys = append(x.keys, saidKey{key, chainText(t, b.chain(key)...)})
		}
		for _, id := range slices.Sorted(maps.Keys(b.uploads)) {
			x.uploads = append(x.uploads, saidUpload{uint64(id), b.uploads[id].key, partsText(t, b.uploads[id].list()...)})
		}
		s.buckets = append(s.buckets, x)
	}
	return s
}

// answers asks that a machine answers all that can be asked of it as the plain one does.
func (p *plain) answers(t *testing.T, m *meta.Machine, buckets, keys []string) {
	t.Helper()
	if m.Index() != p.index || m.Save() != p.said(t).text() {
		t.Fatalf("another machine at %d", p.index)
	}
	same(t, "Buckets", m.Buckets(), slices.Sorted(maps.Keys(p.buckets)))
	same(t, "Tokens", m.Tokens(), p.tokens())
	refs := map[string]bool{}
	for _, name := range buckets {
		b := p.buckets[name]
		if b == nil {
			noKey(t, m, name, keys[0], api.ErrNone)
			continue
		}
		p.answersBucket(t, m, name, keys)
		for key := range b.keys {
			for _, id := range chain.Ids(b.chain(key)) {
				refs[id] = true
			}
		}
		for _, u := range b.uploads {
			for _, id := range parts.Ids(u.list()) {
				refs[id] = true
			}
		}
	}
	same(t, "Refs", m.Refs(), slices.Sorted(maps.Keys(refs)))
}

// answersBucket asks the same of a bucket that is there.
func (p *plain) answersBucket(t *testing.T, m *meta.Machine, name string, keys []string) {
	t.Helper()
	b := p.buckets[name]
	var listed []string
	for _, key := range keys {
		l := b.chain(key)
		if len(l) == 0 {
			noKey(t, m, name, key, api.ErrKey)
			continue
		}
		isChain(t, m, name, key, l...)
		for _, v := range l {
			isVersion(t, m, name, key, v.ID, v, api.OK)
		}
		if l[0].Mark {
			isVersion(t, m, name, key, 0, api.Version{}, api.ErrMark)
		} else {
			isVersion(t, m, name, key, 0, l[0], api.OK)
			listed = append(listed, key)
		}
		isVersion(t, m, name, key, p.index+1, api.Version{}, api.ErrVersion)
	}
	want, more := names.Fold(listed, "", "/", "", 3)
	got, rest, e := m.List(name, "", "/", "", 3)
	if rest != more || e != api.OK || !slices.Equal(got, want) {
		t.Errorf("List(%q): %v, %v, %v, not %v, %v", name, got, rest, e, want, more)
	}
	var uploads []api.Upload
	for _, id := range slices.Sorted(maps.Keys(b.uploads)) {
		u := b.uploads[id]
		uploads = append(uploads, api.Upload{ID: id, Key: u.key})
		isParts(t, m, name, u.key, id, api.OK, u.list()...)
		isParts(t, m, name, u.key+"x", id, api.ErrUpload)
	}
	isUploads(t, m, name, uploads...)
}
