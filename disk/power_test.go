package disk_test

import (
	"maps"
	"math"
	"math/rand"
	"slices"
	"strings"
	"testing"

	"stowage/api"
	"stowage/disk"
)

// The examples of the chapter.
func TestExamples(t *testing.T) {
	d := disk.New()
	ok(t, "Append", d.Append("a", "xy"))
	again(t, d, 0, 1)
	holds(t, "example 1", d, map[string]string{"a": "x"})
	d = disk.New()
	ok(t, "Write", d.Write("a", "x"))
	ok(t, "Sync", d.Sync())
	ok(t, "Write", d.Write("b", "y"))
	ok(t, "Move", d.Move("b", "a"))
	again(t, d, 1, 0)
	holds(t, "example 2", d, map[string]string{"a": "x", "b": "y"})
}

// steps are one change of each kind, and what the files are behind each.
var steps = []struct {
	do   func(d *disk.Disk) api.Errno
	want map[string]string
}{
	{func(d *disk.Disk) api.Errno { return d.Append("a", "345") }, map[string]string{"a": "12345", "b": "x"}},
	{func(d *disk.Disk) api.Errno { return d.Write("b", "yz") }, map[string]string{"a": "12345", "b": "yz"}},
	{func(d *disk.Disk) api.Errno { return d.Move("a", "c") }, map[string]string{"b": "yz", "c": "12345"}},
	{func(d *disk.Disk) api.Errno { return d.Cut("c", 1) }, map[string]string{"b": "yz", "c": "1"}},
	{func(d *disk.Disk) api.Errno { return d.Append("c", "abc") }, map[string]string{"b": "yz", "c": "1abc"}},
	{func(d *disk.Disk) api.Errno { return d.Remove("b") }, map[string]string{"c": "1abc"}},
	{func(d *disk.Disk) api.Errno { return d.Append("d", "") }, map[string]string{"c": "1abc", "d": ""}},
	{func(d *disk.Disk) api.Errno { return d.Move("c", "d") }, map[string]string{"d": "1abc"}},
	{func(d *disk.Disk) api.Errno { return d.Write("d", "") }, map[string]string{"d": ""}},
}

// stepped is a disk on which the first n steps wait.
func stepped(t *testing.T, n int) *disk.Disk {
	t.Helper()
	d := made(t, map[string]string{"a": "12", "b": "x"})
	for i := range n {
		ok(t, "a step", steps[i].do(d))
		holds(t, "a step", d, steps[i].want)
	}
	counts(t, "steps", d, 2+n, n)
	return d
}

// behind is what the files are behind the first n steps.
func behind(n int) map[string]string {
	if n == 0 {
		return map[string]string{"a": "12", "b": "x"}
	}
	return steps[n-1].want
}

// Promises 4.2 and 4.3: the power fails behind each step, and keeps none, some, all of the changes.
func TestFailKeeps(t *testing.T) {
	for n := range len(steps) + 1 {
		for keep := -1; keep <= n+1; keep++ {
			d := stepped(t, n)
			again(t, d, keep, 0)
			holds(t, "kept", d, behind(min(max(keep, 0), n)))
			counts(t, "kept", d, 2+n, 0)
			again(t, d, 0, 0)
			holds(t, "what was kept is sure", d, behind(min(max(keep, 0), n)))
		}
		for _, keep := range []int{math.MinInt, math.MaxInt} {
			d := stepped(t, n)
			again(t, d, keep, math.MinInt)
			holds(t, "kept", d, behind(min(max(keep, 0), n)))
		}
	}
}

// Promises 4.2 and 4.3: the next change is torn, if bytes belong to it.
func TestFailTears(t *testing.T) {
	all := len(steps)
	for _, c := range []struct {
		keep, torn int
		want       map[string]string
	}{
		{0, -1, behind(0)}, {0, math.MinInt, behind(0)}, {0, 0, behind(0)},
		{0, 1, map[string]string{"a": "123", "b": "x"}}, {-5, 2, map[string]string{"a": "1234", "b": "x"}},
		{0, 3, behind(1)}, {0, 4, behind(1)}, {0, math.MaxInt, behind(1)},
		{1, 1, map[string]string{"a": "12345", "b": "y"}}, {1, 2, behind(2)}, {1, 9, behind(2)}, {1, 0, behind(1)},
		{2, 9, behind(2)}, {3, 9, behind(3)}, {3, 1, behind(3)},
		{4, 2, map[string]string{"b": "yz", "c": "1ab"}},
		{5, 9, behind(5)}, {6, 0, behind(6)}, {6, 1, behind(7)}, {7, 1, behind(7)}, {8, 0, behind(8)}, {8, 1, behind(9)},
		{9, 9, behind(9)}, {10, 9, behind(9)},
	} {
		d := stepped(t, all)
		again(t, d, c.keep, c.torn)
		holds(t, "torn", d, c.want)
		again(t, d, 0, 9)
		holds(t, "what was torn is sure", d, c.want)
	}
}

// Promises 4.1 and 4.3: what was synced stays; only what came since waits.
func TestSync(t *testing.T) {
	for n := range len(steps) + 1 {
		for more := n; more <= len(steps); more++ {
			d := stepped(t, n)
			ok(t, "Sync", d.Sync())
			ok(t, "Sync of nothing", d.Sync())
			counts(t, "synced", d, 2+n, 0)
			for i := n; i < more; i++ {
				ok(t, "a step", steps[i].do(d))
			}
			counts(t, "since then", d, 2+more, more-n)
			holds(t, "since then", d, behind(more))
			again(t, d, 0, 0)
			holds(t, "what was synced", d, behind(n))
		}
	}
}

// Promise 4.3: a file that is written under another name, synced, and moved is there whole, or not at all.
func TestWholeOrNotAtAll(t *testing.T) {
	want := strings.Repeat("whole", 10)
	for _, old := range []map[string]string{{}, {"a": "old"}} {
		for fall := range 3 {
			for keep := range 4 {
				for torn := range 60 {
					d := made(t, old)
					d.Plan([]api.Fall{{At: d.Changes() + fall, Keep: keep, Torn: torn}})
					d.Write("new", want)
					d.Sync()
					d.Move("new", "a")
					d.Fail(keep, torn)
					d.Up()
					s, e := d.Read("a")
					was, there := old["a"]
					if !(s == want && e == api.OK) && !(s == was && (e == api.OK) == there) {
						t.Errorf("fall %d, keep %d, torn %d: %q, %v", fall, keep, torn, s, e)
					}
				}
			}
		}
	}
}

// Words: a fall strikes ahead of its change, which counts among those that wait.
func TestFall(t *testing.T) {
	for at := range len(steps) {
		for keep := -1; keep <= at+2; keep++ {
			d := stepped(t, 0)
			d.Plan([]api.Fall{{At: 2 + at, Keep: keep}})
			for i := range at {
				ok(t, "a step ahead of the fall", steps[i].do(d))
			}
			is(t, "the step of the fall", steps[at].do(d), api.ErrDown)
			counts(t, "fallen", d, 2+at, 0)
			if !d.Down() || !d.Up() {
				t.Errorf("the disk did not fall at %d", at)
			}
			holds(t, "fallen", d, behind(min(max(keep, 0), at+1)))
			ok(t, "a change that takes the number", d.Append("new", ""))
			counts(t, "fallen", d, 3+at, 1)
		}
	}
}

// Words: the change of a fall is torn as others are.
func TestFallTears(t *testing.T) {
	for torn := -1; torn <= 4; torn++ {
		long := min(max(torn, 0), 3)
		d := made(t, map[string]string{"a": "12"})
		d.Plan([]api.Fall{{At: 1, Keep: 0, Torn: torn}})
		is(t, "Append", d.Append("a", "345"), api.ErrDown)
		d.Up()
		holds(t, "torn", d, map[string]string{"a": "12" + "345"[:long]})
		d.Plan([]api.Fall{{At: 2, Keep: 1, Torn: torn}})
		ok(t, "Append", d.Append("b", "x"))
		is(t, "Write", d.Write("a", "abc"), api.ErrDown)
		d.Up()
		want := map[string]string{"a": "12" + "345"[:long], "b": "x"}
		if torn > 0 {
			want["a"] = "abc"[:long]
		}
		holds(t, "torn", d, want)
	}
}

// Words: what does not come so far as to be a change meets no fall.
func TestFallPassesErrors(t *testing.T) {
	d := made(t, map[string]string{"a": "12"})
	d.Room(2)
	d.Plan([]api.Fall{{At: 1}})
	is(t, "Append", d.Append("a", "x"), api.ErrFull)
	is(t, "Write", d.Write("a", "123"), api.ErrFull)
	is(t, "Move", d.Move("b", "a"), api.ErrNone)
	is(t, "Move", d.Move("a", "a"), api.ErrArg)
	is(t, "Remove", d.Remove("b"), api.ErrNone)
	is(t, "Cut", d.Cut("a", 3), api.ErrArg)
	is(t, "Append", d.Append("", ""), api.ErrName)
	ok(t, "Sync", d.Sync())
	holds(t, "no change", d, map[string]string{"a": "12"})
	is(t, "a change of nothing", d.Append("a", ""), api.ErrDown)
}

// Words: each fall strikes once, at the change with its number; several at one change as in the plan.
func TestFalls(t *testing.T) {
	d := disk.New()
	d.Plan([]api.Fall{{At: 2, Keep: 9}, {At: 1, Torn: 2}, {At: 0, Keep: 1}, {At: 1, Keep: 7}, {At: -1, Keep: 9}, {At: 1, Torn: 1}})
	file := ""
	for _, c := range []struct {
		s      string
		e      api.Errno
		stays  string
		number int
	}{
		{"abc", api.ErrDown, "abc", 0}, {"def", api.OK, "def", 1}, {"ghi", api.ErrDown, "gh", 1}, {"jkl", api.ErrDown, "jkl", 1},
		{"mno", api.ErrDown, "m", 1}, {"pqr", api.OK, "pqr", 2}, {"stu", api.ErrDown, "stu", 2}, {"vwx", api.OK, "vwx", 3}, {"yz", api.OK, "yz", 4},
	} {
		is(t, c.s, d.Append("a", c.s), c.e)
		file += c.stays
		if d.Up() != (c.e == api.ErrDown) || d.Changes() != c.number {
			t.Errorf("%s: number %d", c.s, d.Changes())
		}
		ok(t, "Sync", d.Sync())
		holds(t, c.s, d, map[string]string{"a": file})
	}
}

// Promise 4.2: a plan stands in the place of another one, and outlasts a loss of power.
func TestPlanAnew(t *testing.T) {
	d := disk.New()
	d.Plan([]api.Fall{{At: 0}, {At: 1}})
	d.Plan(nil)
	ok(t, "a change without a plan", d.Append("a", "x"))
	d.Plan([]api.Fall{{At: 0}})
	ok(t, "a change behind its fall", d.Append("a", "y"))
	d.Plan([]api.Fall{{At: 2}})
	d.Plan([]api.Fall{{At: 3, Keep: 9}})
	d.Fail(9, 0)
	d.Up()
	ok(t, "a change of a plan that is none any more", d.Append("a", "z"))
	is(t, "a change of the plan", d.Append("a", "!"), api.ErrDown)
	d.Plan([]api.Fall{{At: 3, Torn: 1}})
	d.Up()
	is(t, "a change of a plan that was laid while it was down", d.Append("a", "?."), api.ErrDown)
	d.Up()
	holds(t, "plans", d, map[string]string{"a": "xyz!?"})
}

// Promise 4.2: a clone is the same, and goes its own way.
func TestClone(t *testing.T) {
	first := made(t, map[string]string{"a": "12", "b": "x"})
	first.Room(8)
	first.Plan([]api.Fall{{At: 4, Torn: 1}, {At: 4, Keep: 9}})
	ok(t, "Append", first.Append("a", "345"))
	second := first.Clone()
	third := second.Clone()
	for i, d := range []*disk.Disk{first, second, third} {
		own := string([]byte{byte('p' + i), '!'})
		counts(t, "cloned", d, 3, 1)
		holds(t, "cloned", d, map[string]string{"a": "12345", "b": "x"})
		ok(t, "Append", d.Append("a", own))
		is(t, "Append", d.Append("a", "1"), api.ErrFull)
		ok(t, "Sync", d.Sync())
		is(t, "Write", d.Write("b", own[:1]), api.ErrDown)
		c := d.Clone()
		if !c.Down() || len(c.Names()) != 0 || !c.Up() || !d.Down() {
			t.Errorf("a clone of a disk that is down is not")
		}
		d.Up()
		holds(t, "its own", d, map[string]string{"a": "12345" + own, "b": own[:1]})
		for _, e := range []*disk.Disk{c, d} {
			is(t, "the second fall", e.Append("b", ""), api.ErrDown)
		}
	}
	for i, d := range []*disk.Disk{first, second, third} {
		own := string([]byte{byte('p' + i), '!'})
		d.Up()
		holds(t, "its own still", d, map[string]string{"a": "12345" + own, "b": own[:1]})
	}
}

// Promise 4.2: what waits on a clone is its own, and so are bytes with room behind them.
func TestCloneWaits(t *testing.T) {
	one := disk.New()
	for range 9 {
		ok(t, "Append", one.Append("a", "123"))
	}
	ok(t, "Sync", one.Sync())
	sure := strings.Repeat("123", 9)
	ok(t, "Append", one.Append("a", "x"))
	other := one.Clone()
	ok(t, "Append", one.Append("a", "y"))
	ok(t, "Append", other.Append("a", "z"))
	holds(t, "one", one, map[string]string{"a": sure + "xy"})
	holds(t, "other", other, map[string]string{"a": sure + "xz"})
	again(t, one, 1, 0)
	ok(t, "Append", one.Append("a", "q"))
	counts(t, "one", one, 12, 1)
	counts(t, "other", other, 11, 2)
	holds(t, "other", other, map[string]string{"a": sure + "xz"})
	again(t, other, 1, 1)
	holds(t, "other", other, map[string]string{"a": sure + "xz"})
	again(t, one, 0, 0)
	holds(t, "one", one, map[string]string{"a": sure + "x"})
}

// plain is a disk as the chapter tells it: what is sure, and what was done since, gone over from the beginning at each question.
type plain struct {
	sure    map[string]string
	waits   []func(files map[string]string, torn int)
	changes int
	falls   []api.Fall
	room    int
	down    bool
}

func (p *plain) files() map[string]string {
	m := maps.Clone(p.sure)
	for _, do := range p.waits {
		do(m, math.MaxInt)
	}
	return m
}

func (p *plain) fail(keep, torn int) {
	for i, do := range p.waits {
		if i < keep {
			do(p.sure, math.MaxInt)
		} else {
			do(p.sure, max(torn, 0))
			break
		}
	}
	p.waits, p.down = nil, true
}

func (p *plain) change(do func(files map[string]string, torn int)) api.Errno {
	p.waits = append(p.waits, do)
	for i, f := range p.falls {
		if f.At == p.changes {
			p.falls = slices.Delete(slices.Clone(p.falls), i, i+1)
			p.fail(max(f.Keep, 0), f.Torn)
			return api.ErrDown
		}
	}
	p.changes++
	return api.OK
}

func (p *plain) lay(name, s string, behind bool) api.Errno {
	m, used := p.files(), 0
	for _, s := range m {
		used += len(s)
	}
	more := len(s) - len(m[name])
	if behind {
		more = len(s)
	}
	if more > 0 && p.room >= 0 && used+more > p.room {
		return api.ErrFull
	}
	return p.change(func(m map[string]string, torn int) {
		if torn == 0 {
			return
		}
		t := s[:min(torn, len(s))]
		if behind {
			t = m[name] + t
		}
		m[name] = t
	})
}

// whole is a change that is not torn.
func (p *plain) whole(do func(m map[string]string)) api.Errno {
	return p.change(func(m map[string]string, torn int) {
		if torn == math.MaxInt {
			do(m)
		}
	})
}

func (p *plain) move(name, to string) api.Errno {
	if _, there := p.files()[name]; !there {
		return api.ErrNone
	}
	if name == to {
		return api.ErrArg
	}
	return p.whole(func(m map[string]string) { m[to] = m[name]; delete(m, name) })
}

func (p *plain) remove(name string) api.Errno {
	if _, there := p.files()[name]; !there {
		return api.ErrNone
	}
	return p.whole(func(m map[string]string) { delete(m, name) })
}

func (p *plain) cut(name string, long int) api.Errno {
	s, there := p.files()[name]
	if !there {
		return api.ErrNone
	}
	if long < 0 || long > len(s) {
		return api.ErrArg
	}
	return p.whole(func(m map[string]string) { m[name] = m[name][:long] })
}

func (p *plain) clone() *plain {
	q := *p
	q.sure = maps.Clone(p.sure)
	q.waits = slices.Clone(p.waits)
	return &q
}

// turn does one thing to both, as the draws say.
func turn(r *rand.Rand, d *disk.Disk, p *plain) (got, want api.Errno) {
	name, to := string([]byte{byte('a' + r.Intn(3))}), string([]byte{byte('a' + r.Intn(3))})
	s := "0123456789"[:r.Intn(6)]
	if p.down && r.Intn(4) > 0 {
		d.Up()
		p.down = false
	}
	long, at := r.Intn(12)-1, p.changes+r.Intn(6)
	fall := api.Fall{At: at, Keep: r.Intn(6) - 1, Torn: r.Intn(6) - 1}
	if p.down {
		return d.Append(name, s), api.ErrDown
	}
	switch r.Intn(14) {
	case 0, 1, 2:
		return d.Append(name, s), p.lay(name, s, true)
	case 3, 4:
		return d.Write(name, s), p.lay(name, s, false)
	case 5, 6:
		return d.Move(name, to), p.move(name, to)
	case 7:
		return d.Remove(name), p.remove(name)
	case 8, 9:
		return d.Cut(name, long), p.cut(name, long)
	case 10:
		p.sure, p.waits = p.files(), nil
		return d.Sync(), api.OK
	case 11:
		d.Fail(fall.Keep, fall.Torn)
		p.fail(max(fall.Keep, 0), fall.Torn)
	case 12:
		d.Plan([]api.Fall{fall, {At: at, Keep: 9}})
		p.falls = []api.Fall{fall, {At: at, Keep: 9}}
	case 13:
		p.room = r.Intn(30) - 2
		d.Room(p.room)
	}
	return api.OK, api.OK
}

// Promises 4.1 to 4.3: whatever is done, the disk and a plain one answer the same, and so do their clones.
func TestAgainstPlain(t *testing.T) {
	for seed := range 400 {
		r := rand.New(rand.NewSource(int64(seed)))
		disks, plains := []*disk.Disk{disk.New()}, []*plain{{sure: map[string]string{}, room: -1}}
		for range 200 {
			i := r.Intn(len(disks))
			d, p := disks[i], plains[i]
			if got, want := turn(r, d, p); got != want {
				t.Fatalf("seed %d: %v, not %v", seed, got, want)
			}
			if r.Intn(50) == 0 {
				disks, plains = append(disks, d.Clone()), append(plains, p.clone())
			}
			for i, d := range disks {
				agree(t, seed, d, plains[i])
			}
			if t.Failed() {
				return
			}
		}
	}
}

// agree asks that both are the same in all that they tell.
func agree(t *testing.T, seed int, d *disk.Disk, p *plain) {
	t.Helper()
	if d.Down() != p.down {
		t.Errorf("seed %d: down: %v", seed, d.Down())
	}
	counts(t, "plain", d, p.changes, len(p.waits))
	if !p.down {
		holds(t, "plain", d, p.files())
	} else if len(d.Names()) != 0 || d.Used() != 0 {
		t.Errorf("seed %d: down, but %q, %d", seed, d.Names(), d.Used())
	}
}
