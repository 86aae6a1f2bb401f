package wal_test

import (
	"fmt"
	"maps"
	"strings"
	"testing"

	"stowage/api"
	"stowage/disk"
	"stowage/octet"
	"stowage/wal"
)

// with are files and some more of them.
func with(all files, more files) files {
	sum := maps.Clone(all)
	maps.Copy(sum, more)
	return sum
}

// opens asks what Open finds in files, and what it makes of them.
func opens(t *testing.T, what string, all files, want told, left files) {
	t.Helper()
	d := made(t, all)
	l, e := wal.Open(d)
	if e != api.OK || l == nil {
		t.Errorf("%s: Open: %v", what, e)
		return
	}
	tells(t, what, l, want)
	holds(t, what, d, left)
	if d.Waits() != 0 {
		t.Errorf("%s: %d wait", what, d.Waits())
	}
	steady(t, what, d, want)
}

// corrupt asks that Open refuses files, and leaves them as they are.
func corrupt(t *testing.T, what string, all files) {
	t.Helper()
	d := made(t, all)
	changes := d.Changes()
	l, e := wal.Open(d)
	if l != nil || e != api.ErrCorrupt {
		t.Errorf("%s: Open: %v", what, e)
	}
	holds(t, what, d, all)
	if d.Changes() != changes {
		t.Errorf("%s: a change", what)
	}
}

// changed are all texts that differ from s in some bits of one byte.
func changed(s string) []string {
	var l []string
	for i := range len(s) {
		for _, bits := range []byte{1, 128, 255} {
			l = append(l, s[:i]+string([]byte{s[i] ^ bits})+s[i+1:])
		}
	}
	return l
}

// noBases are bodies that are no base's.
var noBases = []string{
	"", numbers(1), numbers(1, 2, 3), numbers(api.MaxTerm+1, 0), numbers(0, api.MaxTerm+1), numbers(1) + "\x80\x00", "\x80", "\x80\x00" + numbers(1),
	numbers(1, 1) + "x", octet.Number(1<<64-1) + numbers(0), strings.Repeat("\x01", 1000),
}

// noEntries are bodies that are no entry's.
var noEntries = []string{
	"", numbers(1), numbers(1, 1), numbers(api.MaxTerm+1, 0) + octet.Text("x"), numbers(1, 256) + octet.Text("x"), numbers(1, 1) + octet.Text("x") + "\x00",
	numbers(1, 1, 4) + "xyz", numbers(1, 1) + octet.Text(strings.Repeat("x", api.MaxData+1)), "\x80\x00" + numbers(1) + octet.Text("x"),
	octet.Number(1<<64-1) + numbers(0, 0), numbers(0) + octet.Number(1<<63) + numbers(0), numbers(1, 1) + "\x81\x00x",
}

// Promise 5.1: no disk, one that is down, one without files.
func TestOpenNothing(t *testing.T) {
	l, e := wal.Open(nil)
	if l != nil || e != api.ErrArg {
		t.Errorf("Open(nil): %v, %v", l, e)
	}
	for _, all := range []files{{}, {"hard": "no hard"}, {"w.1": baseText(0, 0)}} {
		d := made(t, all)
		d.Fail(0, 0)
		l, e = wal.Open(d)
		if l != nil || e != api.ErrDown {
			t.Errorf("Open of a disk that is down: %v, %v", l, e)
		}
		d.Up()
		holds(t, "a disk that was down", d, all)
	}
	opens(t, "no files", files{}, told{vote: -1}, files{"w.1": baseText(0, 0)})
	open := func(d *disk.Disk) { wal.Open(d) }
	does(t, "no files", disk.New(), open, "make w.1", "sync")
	does(t, "nothing to mend", made(t, files{"w.1": baseText(0, 0), "hard": hardText(1, 1)}), open)
}

// Promise 5.1: a disk without room for the first segment.
func TestOpenFull(t *testing.T) {
	d := made(t, files{"other": "xyz"})
	d.Room(3 + len(baseText(0, 0)) - 1)
	if l, e := wal.Open(d); l != nil || e != api.ErrFull {
		t.Errorf("Open without room: %v, %v", l, e)
	}
	holds(t, "no room", d, files{"other": "xyz"})
	d.Room(3 + len(baseText(0, 0)))
	tells(t, "room", opened(t, d), told{vote: -1})
}

// Words: which names are segments'; files of other names are let be.
func TestOpenOtherNames(t *testing.T) {
	entry := api.Entry{Term: 3, Data: "x"}
	others := files{}
	for _, name := range []string{
		"w", "w.", "w.0", "w.01", "w.007", "w.-1", "w.1.", "w.1.0", "w.1a", "w.a", "w..1", "w.1-", "w-1", "ww.1", "x.1", "1", "hard.old", "hard.new.new", "hard.",
		"w.4611686018427387904", "w.9223372036854775807", "w.9223372036854775808", "w.18446744073709551617", "w.99999999999999999999999999999", "e.new", "snap", "snap.new",
	} {
		others[name] = "anything"
	}
	opens(t, "other names alone", others, told{vote: -1}, with(others, files{"w.1": baseText(0, 0)}))
	log := files{"w.2": segmentText(5, 2, entry)}
	opens(t, "other names", with(others, log), told{vote: -1, base: base{5, 2}, entries: []api.Entry{entry}}, with(others, log))
	for _, name := range []string{"w.1", "w.9", "w.10", "w.4611686018427387903"} {
		corrupt(t, name, files{name: baseText(0, 0) + framed("no entry")})
	}
	// They rise as numbers do.
	l := some(1, 4)
	log = files{"w.8": segmentText(1, 1, l[0]), "w.9": segmentText(2, 1, l[1]), "w.10": segmentText(3, 1, l[2]), "w.100": segmentText(4, 1, l[3])}
	opens(t, "numbers", log, told{vote: -1, base: base{1, 1}, entries: l}, log)
}

// Promise 5.1: hard, as it may be and as it may not.
func TestOpenHard(t *testing.T) {
	log := files{"w.1": baseText(0, 0)}
	for _, term := range []int{0, 1, 127, 128, api.MaxTerm} {
		for vote := -1; vote <= 6; vote++ {
			all := with(log, files{"hard": hardText(term, vote)})
			opens(t, "hard", all, told{term: term, vote: vote}, all)
		}
	}
	good := hardText(300, 2)
	wrong := changed(good)
	for i := range len(good) {
		wrong = append(wrong, good[:i])
	}
	wrong = append(wrong, good+"x", good+good, good+framed(""), "x"+good)
	for _, body := range []string{
		"", numbers(1), numbers(1, 1, 1), numbers(api.MaxTerm+1, 0), numbers(1, 8), numbers(1, 0) + "x", octet.Number(1<<64-1) + numbers(0), numbers(0) + octet.Number(1<<64-1),
		numbers(1) + "\x81\x00", numbers(1) + octet.Text("\x01"),
	} {
		wrong = append(wrong, framed(body))
	}
	for _, s := range wrong {
		corrupt(t, fmt.Sprintf("hard %q", s), with(log, files{"hard": s}))
		corrupt(t, fmt.Sprintf("hard %q without a log", s), files{"hard": s, "hard.new": hardText(1, 1)})
	}
}

// Promise 5.1: hard.new that was left goes, whatever it is, and hard stays.
func TestOpenHardNew(t *testing.T) {
	log := files{"w.1": segmentText(0, 0, some(1, 2)...)}
	for _, s := range []string{"", "x", hardText(9, 1), hardText(9, 1)[:5], framed("no hard")} {
		opens(t, "hard.new alone", with(log, files{"hard.new": s}), told{vote: -1, entries: some(1, 2)}, log)
		all := with(log, files{"hard": hardText(4, 4)})
		opens(t, "hard.new", with(all, files{"hard.new": s}), told{term: 4, vote: 4, entries: some(1, 2)}, all)
	}
	opens(t, "hard.new and no log", files{"hard.new": "x"}, told{vote: -1}, files{"w.1": baseText(0, 0)})
}

// Promise 5.1: the last segment without a whole base is left out; ahead of the last one it is ErrCorrupt.
func TestOpenNoBase(t *testing.T) {
	l := some(1, 11)
	ahead := files{"w.1": segmentText(0, 0, l[:8]...)}
	good := baseText(8, 1)
	torn := append(changed(good), "x", strings.Repeat("\xff", 100), good[1:])
	for i := range len(good) {
		torn = append(torn, good[:i])
	}
	for _, s := range torn {
		for _, behind := range []string{"", entriesText(l[8:]...)} {
			if len(s) < len(good) && behind != "" {
				continue // what stands behind may make it whole
			}
			what := fmt.Sprintf("%q as a base", s)
			opens(t, what, with(ahead, files{"w.2": s + behind}), told{vote: -1, entries: l[:8]}, ahead)
			opens(t, what+", alone", files{"w.2": s + behind}, told{vote: -1}, files{"w.1": baseText(0, 0)})
			opens(t, what+", alone and the first", files{"w.1": s + behind}, told{vote: -1}, files{"w.1": baseText(0, 0)})
			corrupt(t, what+", not the last", with(ahead, files{"w.2": s + behind, "w.3": segmentText(11, 1)}))
			corrupt(t, what+", the first", files{"w.2": s + behind, "w.3": segmentText(50, 1)})
		}
		corrupt(t, "two of them", with(ahead, files{"w.2": s, "w.3": s}))
	}
}

// Promise 5.1: what stands behind the last segment's entries is cut off; ahead of the last one it is ErrCorrupt.
func TestOpenTorn(t *testing.T) {
	l := some(1, 11)
	head := segmentText(8, 1, l[8:10]...)
	one := entriesText(l[10])
	ahead := files{"w.1": segmentText(0, 0, l[:8]...)}
	tails := append(changed(one), "x", one[1:], strings.Repeat("\x00", 7), "\x00\x04\x00\x01"+strings.Repeat("x", 300000))
	for i := 1; i < len(one); i++ {
		tails = append(tails, one[:i])
	}
	for _, s := range tails {
		for _, behind := range []string{"", "zz", one + one} {
			if len(s) < len(one) && behind != "" {
				continue
			}
			what := fmt.Sprintf("%.60q behind the last entry", s)
			all := with(ahead, files{"w.2": head + s + behind})
			left := with(ahead, files{"w.2": head})
			opens(t, what, all, told{vote: -1, entries: l[:10]}, left)
			corrupt(t, what+", not the last", with(all, files{"w.3": baseText(10, 1)}))
			corrupt(t, what+", not the last one, and behind it no base", with(all, files{"w.3": "x"}))
			corrupt(t, what+", and not going on", with(all, files{"w.3": baseText(99, 9)}))
		}
	}
	// Behind the base, and behind as many entries as there may be.
	opens(t, "behind the base", with(ahead, files{"w.2": baseText(8, 1) + "x"}), told{vote: -1, entries: l[:8]}, with(ahead, files{"w.2": baseText(8, 1)}))
	opens(t, "behind Wide", files{"w.1": ahead["w.1"] + one[:9]}, told{vote: -1, entries: l[:8]}, ahead)
	corrupt(t, "behind Wide, not the last", files{"w.1": ahead["w.1"] + one[:9], "w.2": baseText(8, 1)})
}

// Promise 5.1: a frame that is whole and right, but not of the form, is ErrCorrupt in any segment.
func TestOpenNotOfTheForm(t *testing.T) {
	l := some(1, 9)
	for _, body := range noEntries {
		for _, n := range []int{0, 1, 7, 8} {
			for _, behind := range []string{"", "x", entriesText(l[8])} {
				what := fmt.Sprintf("%.40q behind %d", body, n)
				s := segmentText(3, 1, l[:n]...) + framed(body) + behind
				corrupt(t, what, files{"w.1": s})
				corrupt(t, what+", the last", files{"w.1": segmentText(2, 1, l[0]), "w.2": s})
				corrupt(t, what+", not the last", files{"w.1": s, "w.2": baseText(3+n, 1)})
				corrupt(t, what+", to be left out", files{"w.1": s, "w.2": baseText(1000, 1)})
			}
		}
	}
	for _, body := range noBases {
		for _, behind := range []string{"", "x", entriesText(l[8])} {
			what := fmt.Sprintf("the base %.40q", body)
			corrupt(t, what, files{"w.1": framed(body) + behind})
			corrupt(t, what+", the last", files{"w.1": baseText(0, 0), "w.2": framed(body) + behind})
			corrupt(t, what+", not the last", files{"w.1": framed(body) + behind, "w.2": baseText(9, 9)})
		}
	}
	most := api.Entry{Term: api.MaxTerm, Kind: 255, Data: strings.Repeat("x", api.MaxData)}
	all := files{"w.1": segmentText(api.MaxTerm, api.MaxTerm, most, api.Entry{})}
	opens(t, "all at their bounds", all, told{vote: -1, base: base{api.MaxTerm, api.MaxTerm}, entries: []api.Entry{most, {}}}, all)
}

// Promise 5.1: one more than Wide entries is ErrCorrupt in any segment.
func TestOpenTooMany(t *testing.T) {
	for n := range 12 {
		l := some(1, n)
		all := files{"w.1": segmentText(4, 1, l...)}
		more := with(all, files{"w.2": segmentText(4+n, 1, l...)})
		far := with(all, files{"w.2": baseText(77, 1)})
		if n > wal.Wide {
			corrupt(t, fmt.Sprint("entries ", n), all)
			corrupt(t, fmt.Sprint("twice entries ", n), more)
			corrupt(t, fmt.Sprint("entries to be left out ", n), far)
			continue
		}
		opens(t, fmt.Sprint("entries ", n), all, told{vote: -1, base: base{4, 1}, entries: l}, all)
		opens(t, fmt.Sprint("twice entries ", n), more, told{vote: -1, base: base{4, 1}, entries: append(some(1, n), l...)}, more)
		opens(t, fmt.Sprint("entries to be left out ", n), far, told{vote: -1, base: base{77, 1}}, files{"w.2": baseText(77, 1)})
	}
}

// Promise 5.1: where segments do not go on one from another all ahead are left out.
func TestOpenGoesOn(t *testing.T) {
	l := some(2, 3)
	one, two := files{"w.1": segmentText(5, 1, l...)}, files{"w.2": segmentText(8, 2, l...)}
	both := with(one, two)
	opens(t, "they go on", both, told{vote: -1, base: base{5, 1}, entries: append(some(2, 3), l...)}, both)
	for _, at := range []base{{7, 2}, {9, 2}, {8, 1}, {8, 3}, {0, 0}, {5, 1}, {api.MaxTerm, api.MaxTerm}} {
		last := files{"w.3": segmentText(at.index, at.term, l...)}
		opens(t, fmt.Sprint("not on ", at), with(one, last), told{vote: -1, base: at, entries: l}, last)
		opens(t, fmt.Sprint("not on behind no more ", at), with(both, last), told{vote: -1, base: at, entries: l}, last)
		opens(t, fmt.Sprint("not on with no base behind ", at), with(one, with(last, files{"w.4": "x"})), told{vote: -1, base: at, entries: l}, last)
		next := with(last, files{"w.4": segmentText(at.index+3, 2, l...)})
		if at.index < api.MaxTerm {
			opens(t, fmt.Sprint("not on, then on ", at), with(both, next), told{vote: -1, base: at, entries: append(some(2, 3), l...)}, next)
		}
	}
	empty := files{"w.1": baseText(5, 1), "w.2": baseText(5, 1), "w.7": segmentText(5, 1, l...), "w.9": baseText(8, 2), "w.11": segmentText(8, 2, l[0])}
	opens(t, "some are empty", empty, told{vote: -1, base: base{5, 1}, entries: append(some(2, 3), l[0])}, empty)
	twice := files{"w.1": segmentText(1, 1, l...), "w.2": segmentText(7, 1, l...), "w.3": segmentText(9, 1, l[0])}
	opens(t, "twice not on", twice, told{vote: -1, base: base{9, 1}, entries: l[:1]}, files{"w.3": twice["w.3"]})
}

// Promise 5.3: Append, Compact and Reset of a log some of whose segments are empty or short.
func TestShortSegments(t *testing.T) {
	l := some(2, 5)
	all := files{"w.1": baseText(5, 1), "w.3": segmentText(5, 1, l[:3]...), "w.9": baseText(8, 2), "w.10": segmentText(8, 2, l[3:]...)}
	d := made(t, all)
	for at, want := range map[int][]string{
		6:  {"remove w.10", "remove w.9", "remove w.3", "append w.1", "make w.2", "sync"},
		7:  {"remove w.10", "remove w.9", "cut w.3", "append w.3", "make w.4", "sync"},
		9:  {"remove w.10", "remove w.9", "append w.3", "make w.4", "sync"},
		10: {"cut w.10", "append w.10", "make w.11", "sync"},
		11: {"append w.10", "make w.11", "sync"},
	} {
		logDoes(t, fmt.Sprint("Append ", at), d, func(l *wal.Log) api.Errno { return l.Append(at, some(3, 9)) }, want...)
	}
	for index, want := range map[int][]string{
		5: {"remove w.1", "sync"}, 7: {"remove w.1", "sync"}, 8: {"remove w.1", "remove w.3", "remove w.9", "sync"}, 10: {"remove w.1", "remove w.3", "remove w.9", "sync"},
	} {
		logDoes(t, fmt.Sprint("Compact ", index), d, func(l *wal.Log) api.Errno { return l.Compact(index) }, want...)
	}
	logDoes(t, "Reset", d, func(l *wal.Log) api.Errno { return l.Reset(1, 1) }, "make w.11", "sync", "remove w.1", "remove w.3", "remove w.9", "remove w.10", "sync")
}

// Promise 5.1: by which changes files are mended, in which order.
func TestOpenChanges(t *testing.T) {
	l := some(1, 3)
	open := func(d *disk.Disk) { wal.Open(d) }
	for _, c := range []struct {
		all  files
		want []string
	}{
		{files{"hard.new": "x", "w.1": baseText(0, 0)}, []string{"remove hard.new", "sync"}},
		{files{"hard.new": "x"}, []string{"remove hard.new", "make w.1", "sync"}},
		{files{"w.1": "x"}, []string{"remove w.1", "make w.1", "sync"}},
		{files{"w.5": "x", "hard.new": ""}, []string{"remove hard.new", "remove w.5", "make w.1", "sync"}},
		{files{"w.5": baseText(0, 0) + "x"}, []string{"cut w.5", "sync"}},
		{files{"w.5": segmentText(0, 0, l...), "w.6": "x"}, []string{"remove w.6", "sync"}},
		{
			files{"hard.new": "x", "w.8": segmentText(0, 0, l...), "w.9": baseText(7, 1), "w.10": baseText(8, 1), "w.11": segmentText(9, 1, l...) + "x"},
			[]string{"remove hard.new", "remove w.8", "remove w.9", "remove w.10", "cut w.11", "sync"},
		},
		{
			files{"w.8": baseText(0, 0), "w.9": baseText(7, 1), "w.10": baseText(8, 1), "w.11": baseText(9, 1), "w.12": "x"},
			[]string{"remove w.8", "remove w.9", "remove w.10", "remove w.12", "sync"},
		},
	} {
		does(t, fmt.Sprintf("Open of %q", c.all), made(t, c.all), open, c.want...)
	}
}

// Rule R1: whatever files hold, Open finds a log that stays, or refuses them as they are.
func FuzzOpen(f *testing.F) {
	l := some(1, 9)
	f.Add("", "", "", "")
	f.Add(segmentText(0, 0, l[:8]...), segmentText(8, 1, l[8]), hardText(3, 1), "x")
	f.Add(segmentText(0, 0, l...), segmentText(9, 1), "x", "")
	f.Add(segmentText(5, 1, l[:3]...), segmentText(9, 1, l[0])+"torn", hardText(0, -1), hardText(1, 1))
	f.Fuzz(func(t *testing.T, one, two, hard, spare string) {
		all := files{"w.1": one, "w.2": two, "hard": hard, "hard.new": spare}
		if hard == "" {
			delete(all, "hard")
		}
		d := made(t, all)
		l, e := wal.Open(d)
		if e != api.OK {
			is(t, "Open", e, api.ErrCorrupt)
			holds(t, "Open", d, all)
			return
		}
		steady(t, "Open", d, tell(t, "Open", l))
	})
}
