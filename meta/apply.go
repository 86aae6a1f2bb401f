package meta

import (
	"strings"

	"stowage/api"
	"stowage/chain"
	"stowage/cmd"
	"stowage/parts"
	"stowage/token"
)

// deed does what a command wants in a bucket that is there, at an index.
type deed func(b *bucket, index int, c api.Cmd) (api.Out, api.Errno)

// Apply does a command.
func (m *Machine) Apply(index int, c api.Cmd) api.Out {
	if m == nil || index <= m.index || index > api.MaxTerm {
		return outcome(api.Out{}, api.ErrArg)
	}
	m.index = index
	if cmd.Check(c) != api.OK {
		return outcome(api.Out{}, api.ErrArg)
	}
	switch {
	case c.Kind == api.CmdExpire:
		return m.expire(c.ID)
	case c.Token != "":
		return m.once(c)
	}
	return m.do(c)
}

// outcome is what came of a command; beside an error there is nothing else.
func outcome(o api.Out, e api.Errno) api.Out {
	if e != api.OK {
		return api.Out{Code: int(e)}
	}
	return o
}

// expire forgets the tokens up to an index.
func (m *Machine) expire(upto int) api.Out {
	left, went := token.Expire(m.tokens, upto)
	m.tokens = left
	return api.Out{ID: went}
}

// once does a command with a token, unless it was done.
func (m *Machine) once(c api.Cmd) api.Out {
	sum, _ := cmd.Digest(c) // a command that may be has one
	switch is, kept := token.Look(m.tokens, c.Token, sum); {
	case is == api.TokenKnown:
		o, _ := cmd.DecodeOut(kept) // what is kept is an outcome's text
		return o
	case is == api.TokenClash:
		return outcome(api.Out{}, api.ErrClash)
	case len(m.tokens) == api.MaxTokens:
		return outcome(api.Out{}, api.ErrMany) // what could not be kept is not done
	}
	o := m.do(c)
	m.keep(c.Token, sum, o)
	return o
}

// keep notes the outcome of a command that was done just now.
func (m *Machine) keep(name, sum string, o api.Out) {
	text, _ := cmd.EncodeOut(o) // what came of a command is an outcome that may be
	l, _ := token.Note(m.tokens, api.Held{Token: name, Sum: sum, Out: text, At: m.index})
	m.tokens = l // the token was fresh, and there was room
}

// do does what a command wants.
func (m *Machine) do(c api.Cmd) api.Out {
	b, there := m.buckets.get(c.Bucket)
	switch {
	case c.Kind == api.CmdMake:
		return outcome(api.Out{}, m.makeBucket(c.Bucket))
	case !there:
		return outcome(api.Out{}, api.ErrNone)
	case c.Kind == api.CmdDrop:
		return outcome(api.Out{}, m.dropBucket(c.Bucket, b))
	}
	return outcome(deedOf(c.Kind)(b, m.index, c))
}

// makeBucket makes an empty bucket.
func (m *Machine) makeBucket(name string) api.Errno {
	if _, there := m.buckets.get(name); there {
		return api.ErrThere
	}
	if len(m.buckets.rows) == api.MaxBuckets {
		return api.ErrMany
	}
	m.buckets.put(strings.Clone(name), &bucket{})
	return api.OK
}

// dropBucket takes a bucket away that has nothing.
func (m *Machine) dropBucket(name string, b *bucket) api.Errno {
	if len(b.keys.rows) > 0 || len(b.uploads.rows) > 0 {
		return api.ErrFilled
	}
	m.buckets.drop(name)
	return api.OK
}

// deedOf is what does the commands of a kind.
func deedOf(kind int) deed {
	switch kind {
	case api.CmdPut:
		return put
	case api.CmdMark:
		return mark
	case api.CmdErase:
		return erase
	case api.CmdBegin:
		return begin
	case api.CmdPart:
		return part
	case api.CmdJoin:
		return join
	case api.CmdStop:
		return stop
	}
	return none
}

// none is the deed of what is no kind in a bucket.
func none(b *bucket, index int, c api.Cmd) (api.Out, api.Errno) {
	return api.Out{}, api.ErrArg
}

// put makes an object the newest version.
func put(b *bucket, index int, c api.Cmd) (api.Out, api.Errno) {
	size, _ := chain.Pieces(c.Pieces) // those of a command that may be have one
	e := b.lay(c.Key, api.Version{ID: index, Size: size, Sum: c.Sum, Pieces: c.Pieces})
	return api.Out{ID: index, Sum: strings.Clone(c.Sum)}, e
}

// mark makes a delete marker the newest version.
func mark(b *bucket, index int, c api.Cmd) (api.Out, api.Errno) {
	return api.Out{ID: index}, b.lay(c.Key, api.Version{ID: index, Mark: true})
}

// erase takes a version away.
func erase(b *bucket, index int, c api.Cmd) (api.Out, api.Errno) {
	l, there := b.keys.get(c.Key)
	if !there {
		return api.Out{}, api.ErrKey
	}
	left, e := chain.Drop(l, c.ID)
	if e != api.OK {
		return api.Out{}, api.ErrVersion
	}
	if len(left) == 0 {
		b.keys.drop(c.Key)
	} else {
		b.keys.put(c.Key, left)
	}
	return api.Out{ID: c.ID}, api.OK
}

// begin begins an upload.
func begin(b *bucket, index int, c api.Cmd) (api.Out, api.Errno) {
	if len(b.uploads.rows) == api.MaxUploads {
		return api.Out{}, api.ErrMany
	}
	b.uploads.put(index, upload{key: strings.Clone(c.Key)})
	return api.Out{ID: index}, api.OK
}

// part puts a part among those of its upload.
func part(b *bucket, index int, c api.Cmd) (api.Out, api.Errno) {
	u, e := b.upload(c.ID, c.Key)
	if e != api.OK {
		return api.Out{}, e
	}
	size, _ := chain.Pieces(c.Pieces) // those of a command that may be have one
	u.parts, e = parts.Put(u.parts, api.Part{N: c.N, Size: size, Sum: c.Sum, Pieces: c.Pieces})
	if e != api.OK {
		return api.Out{}, e
	}
	b.uploads.put(c.ID, u)
	return api.Out{ID: c.N, Sum: strings.Clone(c.Sum)}, api.OK
}

// join makes what is put together of an upload the newest version.
func join(b *bucket, index int, c api.Cmd) (api.Out, api.Errno) {
	u, e := b.upload(c.ID, c.Key)
	if e != api.OK {
		return api.Out{}, e
	}
	v, e := parts.Join(u.parts, c.Picks)
	if e != api.OK {
		return api.Out{}, e
	}
	v.ID = index
	if e := b.lay(c.Key, v); e != api.OK {
		return api.Out{}, e
	}
	b.uploads.drop(c.ID)
	return api.Out{ID: index, Sum: v.Sum}, api.OK
}

// stop takes an upload away.
func stop(b *bucket, index int, c api.Cmd) (api.Out, api.Errno) {
	if _, e := b.upload(c.ID, c.Key); e != api.OK {
		return api.Out{}, e
	}
	b.uploads.drop(c.ID)
	return api.Out{ID: c.ID}, api.OK
}

// lay lays a version ahead of a key's others.
func (b *bucket) lay(key string, v api.Version) api.Errno {
	old, there := b.keys.get(key)
	if !there && len(b.keys.rows) == api.MaxKeys {
		return api.ErrMany
	}
	l, e := chain.Put(old, v)
	if e != api.OK {
		return e
	}
	b.keys.put(strings.Clone(key), l)
	return api.OK
}
