package piece_test

import (
	"reflect"
	"slices"
	"strings"
	"testing"
	"unsafe"

	"stowage/api"
	"stowage/octet"
	"stowage/piece"
)

// rep is one text n times.
func rep(s string, n int) string { return strings.Repeat(s, n) }

// Each byte at the front, within and at the end; each length around 64.
func TestIsDigest(t *testing.T) {
	for c := range 256 {
		s := string([]byte{byte(c)})
		want := strings.Contains("0123456789abcdef", s)
		for _, text := range []string{s + rep("0", 63), rep("f", 30) + s + rep("9", 33), rep("a", 63) + s, rep(s, 64)} {
			if piece.IsDigest(text) != want {
				t.Errorf("IsDigest(%q): %v", text, !want)
			}
		}
	}
	for n := range 200 {
		if piece.IsDigest(rep("a", n)) != (n == 64) {
			t.Errorf("IsDigest of %d digits: %v", n, n != 64)
		}
	}
}

// some are pieces with ids of any form: the package itself asks nothing of them but where it says so.
func some() []api.Piece {
	return []api.Piece{{ID: rep("a", 64), Size: 4096}, {ID: "b", Size: 0}, {ID: "", Size: 300}, {ID: rep("a", 64), Size: 1}}
}

// Pieces are copied, and their ids told, in order, in memory of their own.
func TestApart(t *testing.T) {
	l := some()
	own, ids := piece.Apart(l), piece.IDs(l)
	if !slices.Equal(own, l) || !slices.Equal(ids, []string{rep("a", 64), "b", "", rep("a", 64)}) {
		t.Errorf("Apart: %v; IDs: %q", own, ids)
	}
	for i, p := range l {
		if p.ID != "" && (unsafe.StringData(own[i].ID) == unsafe.StringData(p.ID) || unsafe.StringData(ids[i]) == unsafe.StringData(p.ID)) {
			t.Errorf("the id of %d is one memory", i)
		}
	}
	own[0].Size, ids[0] = 7, "x"
	if !slices.Equal(l, some()) {
		t.Errorf("the pieces are %v", l)
	}
	if len(piece.Apart(nil)) != 0 || len(piece.IDs(nil)) != 0 {
		t.Errorf("of nothing: %v, %q", piece.Apart(nil), piece.IDs(nil))
	}
}

// Versions and parts are copied, with their pieces, in memory of their own; markers, too.
func TestApartVersionsAndParts(t *testing.T) {
	sum := rep("c", 64)
	versions := []api.Version{{ID: 9, Size: 3, Sum: sum, Pieces: some()}, {ID: 7, Mark: true}, {ID: 5, Sum: sum}}
	parts := []api.Part{{N: 1, Size: 3, Sum: sum, Pieces: some()}, {N: 2, Sum: sum}}
	ownVersions, ownParts := piece.ApartVersions(versions), piece.ApartParts(parts)
	one := piece.ApartVersion(versions[0])
	if !reflect.DeepEqual(ownVersions, versions) || !reflect.DeepEqual(ownParts, parts) || !reflect.DeepEqual(one, versions[0]) {
		t.Errorf("ApartVersions: %v; ApartParts: %v; ApartVersion: %v", ownVersions, ownParts, one)
	}
	for _, text := range []string{ownVersions[0].Sum, ownVersions[2].Sum, ownParts[0].Sum, ownParts[1].Sum, one.Sum} {
		if unsafe.StringData(text) == unsafe.StringData(sum) {
			t.Errorf("a Sum is one memory")
		}
	}
	ownVersions[0].Pieces[0].Size, ownParts[0].Pieces[0].Size, one.Pieces[0].Size = 7, 8, 9
	ownVersions[1], ownParts[1] = api.Version{}, api.Part{}
	if !slices.Equal(versions[0].Pieces, some()) || !slices.Equal(parts[0].Pieces, some()) || !versions[1].Mark || parts[1].N != 2 {
		t.Errorf("the versions are %v, the parts %v", versions, parts)
	}
	if len(piece.ApartVersions(nil)) != 0 || len(piece.ApartParts(nil)) != 0 {
		t.Errorf("of nothing: %v, %v", piece.ApartVersions(nil), piece.ApartParts(nil))
	}
}

// A text is what it is, and is taken again, with what stands behind it left.
func TestText(t *testing.T) {
	want := "\x04" + "\x40" + rep("a", 64) + "\x80\x20" + "\x01b\x00" + "\x00\xac\x02" + "\x40" + rep("a", 64) + "\x01"
	if got := piece.Text(some()); got != want {
		t.Errorf("Text: %q", got)
	}
	if piece.Text(nil) != "\x00" {
		t.Errorf("Text of nothing: %q", piece.Text(nil))
	}
	r := octet.NewReader(want + "\x05")
	if l := piece.Read(r); !slices.Equal(l, some()) || r.Err() != api.OK || r.Int(9) != 5 || r.End() != api.OK {
		t.Errorf("Read: %v, %v", l, r.Err())
	}
}

// The upper bounds, from both sides; a text that is cut; readers that have failed, and none.
func TestRead(t *testing.T) {
	one := "\x40" + rep("0", 64) + "\x01"
	for _, c := range []struct {
		text string
		many int
		want api.Errno
	}{
		{"\x00", 0, api.OK}, {"\x80\x04" + rep(one, 512), 512, api.OK}, {"\x81\x04" + rep(one, 513), 0, api.ErrLong},
		{"\x01\x40" + rep("0", 64) + "\x80\x20", 1, api.OK}, {"\x01\x40" + rep("0", 64) + "\x81\x20", 1, api.ErrLong},
		{"\x01\x41" + rep("0", 65) + "\x01", 1, api.ErrLong}, {"\x01\x40" + rep("0", 64), 1, api.ErrEnd}, {"\x02" + one, 2, api.ErrEnd},
		{"", 0, api.ErrEnd}, {"\x80\x00", 0, api.ErrForm}, {"\xff\xff\xff\xff\xff\xff\xff\xff\xff\x01", 0, api.ErrLong},
	} {
		r := octet.NewReader(c.text)
		if l := piece.Read(r); len(l) != c.many || r.End() != c.want {
			t.Errorf("Read(%.20q): %d pieces, %v", c.text, len(l), r.Err())
		}
	}
	r := octet.NewReader("\x01" + one)
	r.Fail(api.ErrSum)
	if l := piece.Read(r); len(l) != 0 || r.Err() != api.ErrSum || r.At() != 0 {
		t.Errorf("Read behind an error: %v, %v, %d", l, r.Err(), r.At())
	}
	if l := piece.Read(nil); len(l) != 0 {
		t.Errorf("Read of no reader: %v", l)
	}
}
