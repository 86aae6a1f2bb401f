package gate_test

import (
	"strings"
	"testing"

	"stowage/api"
	"stowage/extent"
	"stowage/gate"
	"stowage/octet"
)

// number is a number's text, also of one that may not be.
func number(n int) string { return octet.Number(uint64(n)) }

// written is a note's text, whether it may be or not.
func written(n api.Note) string {
	yes := 0
	if n.Yes {
		yes = 1
	}
	return number(n.Kind) + number(n.From) + number(n.To) + octet.Text(n.ID) + number(yes) + octet.Text(n.Data)
}

// fine are notes that may be.
func fine() []api.Note {
	long := rep("x", api.MaxExtent)
	return []api.Note{
		{Kind: api.NoteStore, From: 0, To: 1, ID: extent.ID("a"), Data: "a"},
		{Kind: api.NoteStore, From: 6, To: 0, ID: extent.ID(long), Data: long},
		{Kind: api.NoteStored, From: 1, To: 2, ID: extent.ID("a"), Yes: true},
		{Kind: api.NoteStored, From: 1, To: 2, ID: extent.ID("a")},
		{Kind: api.NoteStored, From: 1, To: 2, ID: rep("0", 64)},
		{Kind: api.NoteFetch, From: 3, To: 6, ID: rep("f9", 32)},
		{Kind: api.NoteFetched, From: 5, To: 4, ID: extent.ID("ab"), Data: "ab", Yes: true},
		{Kind: api.NoteFetched, From: 5, To: 4, ID: extent.ID("ab")},
	}
}

// Promise 21.1: notes of each kind.
func TestNotes(t *testing.T) {
	for _, n := range fine() {
		if !gate.Check(n) {
			t.Errorf("Check(%s): false", short(n))
		}
		s, e := gate.Encode(n)
		if s != written(n) || e != api.OK {
			t.Errorf("Encode(%s): %q, %v", short(n), s, e)
		}
		if back, e := gate.Decode(s); back != n || e != api.OK {
			t.Errorf("Decode of %s: %s, %v", short(n), short(back), e)
		}
	}
}

// mayNotBe asks that a note may not be, and that its text is none.
func mayNotBe(t *testing.T, n api.Note) {
	t.Helper()
	if gate.Check(n) {
		t.Errorf("Check(%s): true", short(n))
	}
	if s, e := gate.Encode(n); s != "" || e != api.ErrArg {
		t.Errorf("Encode(%s): %q, %v", short(n), s, e)
	}
	if back, e := gate.Decode(written(n)); back != (api.Note{}) || e != api.ErrForm {
		t.Errorf("Decode of %s: %s, %v", short(n), short(back), e)
	}
}

// Promise 21.1: notes that may not be, in one field.
func TestNotesThatMayNotBe(t *testing.T) {
	for _, n := range fine() {
		change := func(to func(n *api.Note)) {
			t.Helper()
			other := n
			to(&other)
			mayNotBe(t, other)
		}
		for _, kind := range []int{-1, 0, 5, 6, 255, 1 << 40} {
			change(func(n *api.Note) { n.Kind = kind })
		}
		for _, node := range []int{-1, 7, 8, 127, 1 << 40, -1 << 63} {
			change(func(n *api.Note) { n.From = node })
			change(func(n *api.Note) { n.To = node })
		}
		change(func(n *api.Note) { n.From = n.To })
		change(func(n *api.Note) { n.To = n.From })
		for _, id := range []string{"", "a", rep("0", 63), rep("0", 65), rep("A", 64), rep("g", 64), strings.ToUpper(extent.ID("a")), n.ID[:63] + "G", n.ID[:63] + "\x00", n.ID[1:] + " ", rep("é", 32)} {
			change(func(n *api.Note) { n.ID = id })
		}
		if n.Data != "" {
			for _, s := range []string{"", "b", n.Data + "x", n.Data[1:], rep("x", api.MaxExtent+1), rep("y", api.MaxExtent)} {
				change(func(n *api.Note) { n.Data = s })
			}
			change(func(n *api.Note) { n.ID = extent.ID("other") })
			change(func(n *api.Note) { n.Yes = !n.Yes })
			long := rep("x", api.MaxExtent+1)
			change(func(n *api.Note) { n.Data, n.ID = long, extent.ID(long) })
			change(func(n *api.Note) { n.Data, n.ID = "", extent.ID("") })
		} else {
			change(func(n *api.Note) { n.Data, n.ID = "a", extent.ID("b") })
			if n.Kind != api.NoteFetched || !n.Yes {
				change(func(n *api.Note) { n.Data = "x" })
				change(func(n *api.Note) { n.Data, n.ID = "x", extent.ID("x") })
			}
		}
		if n.Kind == api.NoteStore || n.Kind == api.NoteFetch {
			change(func(n *api.Note) { n.Yes = true })
		}
	}
	mayNotBe(t, api.Note{})
	mayNotBe(t, api.Note{Kind: api.NoteFetched, From: 1, To: 2, ID: extent.ID(""), Yes: true})
	mayNotBe(t, api.Note{Kind: api.NoteStore, From: 1, To: 2, ID: extent.ID("a"), Data: "a", Yes: true})
}

// Promise 21.1: texts that are no note's.
func TestTextsOfNoNote(t *testing.T) {
	refuses := func(s string) {
		t.Helper()
		if n, e := gate.Decode(s); n != (api.Note{}) || e != api.ErrForm {
			t.Errorf("Decode(%q): %s, %v", short(s), short(n), e)
		}
	}
	for _, n := range fine() {
		s := written(n)
		for i := range min(len(s), 200) {
			refuses(s[:i])
		}
		refuses(s[:len(s)-1])
		refuses(s + "\x00")
		refuses(s + s)
		// A number in a longer form, and a yes that is neither.
		refuses(string([]byte{byte(n.Kind + 128), 0}) + s[1:])
		refuses(s[:1] + string([]byte{byte(n.From + 128), 0}) + s[2:])
		refuses(s[:68] + "\x02" + s[69:])
		refuses(s[:68] + "\x81\x00" + s[69:])
	}
	refuses("")
	refuses(rep("\xff", 100))
	refuses(rep("\x00", 100))
}

// Any text is a note's just if it is what Encode says of it.
func FuzzDecode(f *testing.F) {
	for _, n := range fine() {
		f.Add(written(n))
	}
	f.Fuzz(func(t *testing.T, s string) {
		n, e := gate.Decode(s)
		if e != api.OK {
			if n != (api.Note{}) || e != api.ErrForm {
				t.Errorf("Decode(%q): %v, %v", s, n, e)
			}
			return
		}
		if back, e := gate.Encode(n); back != s || e != api.OK || !gate.Check(n) {
			t.Errorf("Encode of %v: %q, %v, not %q", n, back, e, s)
		}
	})
}
