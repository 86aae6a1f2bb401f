package meta_test

import (
	"fmt"
	"testing"

	"stowage/api"
	"stowage/cmd"
	"stowage/meta"
)

// Promises 17.1 and 17.3: a token that is fresh, known and clashes; what is known is done no second time.
func TestToken(t *testing.T) {
	m := driven(t, makes("one"))
	put := with("t", puts("one", "k", 1, pieces(5)...))
	does(t, m, put, api.Out{ID: 2, Sum: digits(1)})
	same(t, "Tokens", m.Tokens(), []api.Held{held(put, api.Out{ID: 2, Sum: digits(1)}, 2)})
	for range 3 {
		before := saidBy(t, m)
		does(t, m, put, api.Out{ID: 2, Sum: digits(1)})
		before.index++
		if m.Save() != before.text() {
			t.Errorf("what is known was done again")
		}
	}
	for _, c := range []api.Cmd{puts("one", "k", 2, pieces(5)...), puts("one", "k", 1), puts("one", "x", 1, pieces(5)...), puts("not", "k", 1, pieces(5)...), marks("one", "k"), makes("one"), makes("two"), drops("one"), erases("one", "k", 2)} {
		before := saidBy(t, m)
		does(t, m, with("t", c), failed(api.ErrClash))
		before.index++
		if m.Save() != before.text() {
			t.Errorf("what clashes was done: %s", short(c))
		}
	}
	isChain(t, m, "one", "k", object(2, 1, pieces(5)...))
	// Other tokens, and none: it is done.
	for _, name := range []string{"T", "tt", "s", "", "u"} {
		id := m.Index() + 1
		does(t, m, with(name, put), api.Out{ID: id, Sum: digits(1)})
	}
	var names []string
	for _, h := range m.Tokens() {
		names = append(names, h.Token)
	}
	same(t, "the tokens", names, []string{"T", "s", "t", "tt", "u"})
	l, _ := m.Chain("one", "k")
	if len(l) != 6 {
		t.Errorf("%d versions", len(l))
	}
}

// Promises 17.1 and 17.3: of each kind the outcome is kept, be it an error or not, and is answered however the machine has changed.
func TestTokenOfEachKind(t *testing.T) {
	m := driven(t, makes("one"), puts("one", "k", 1), begins("one", "u"), begins("one", "v"), brings("one", "v", 4, 1, 9, pieces(3)...))
	var told []api.Held
	check := func(c api.Cmd, want api.Out) {
		t.Helper()
		c.Token = fmt.Sprintf("t%02d", len(told))
		does(t, m, c, want)
		told = append(told, held(c, want, m.Index()))
		does(t, m, c, want)
		same(t, "Tokens", m.Tokens(), told)
	}
	check(makes("two"), api.Out{})
	check(makes("two"), failed(api.ErrThere))
	check(drops("two"), api.Out{})
	check(drops("two"), failed(api.ErrNone))
	check(drops("one"), failed(api.ErrFilled))
	check(puts("one", "k", 3), api.Out{ID: m.Index() + 1, Sum: digits(3)})
	check(puts("two", "k", 3), failed(api.ErrNone))
	check(marks("one", "k"), api.Out{ID: m.Index() + 1})
	check(erases("one", "k", 2), api.Out{ID: 2})
	check(erases("one", "k", 2), failed(api.ErrVersion))
	check(erases("one", "x", 2), failed(api.ErrKey))
	check(begins("one", "w"), api.Out{ID: m.Index() + 1})
	check(brings("one", "u", 3, 7, 8, pieces(6)...), api.Out{ID: 7, Sum: digits(8)})
	check(brings("one", "x", 3, 7, 8, pieces(6)...), failed(api.ErrUpload))
	check(joins("one", "u", 3, pick(1, 1)), failed(api.ErrPart))
	check(joins("one", "u", 3), failed(api.ErrArg))
	check(joins("one", "v", 4, pick(1, 9)), api.Out{ID: m.Index() + 1, Sum: joined(9)})
	check(stops("one", "u", 3), api.Out{ID: 3})
	check(stops("one", "u", 3), failed(api.ErrUpload))
	if o, e := cmd.DecodeOut(m.Tokens()[1].Out); o != failed(api.ErrThere) || e != api.OK {
		t.Errorf("what is kept: %v, %v", o, e)
	}
	// What was refused would be done now, and what was done would be refused; what is kept is told all the same.
	does(t, m, with("t03", drops("two")), failed(api.ErrNone))
	run(t, m, makes("two"))
	does(t, m, with("t03", drops("two")), failed(api.ErrNone))
	does(t, m, with("t06", puts("two", "k", 3)), failed(api.ErrNone))
	does(t, m, with("t00", makes("two")), api.Out{})
	same(t, "Buckets", m.Buckets(), []string{"one", "two"})
	same(t, "Tokens", m.Tokens(), told)
}

// Promise 17.1: as many tokens as may be kept, and one more, which is not done; those that are kept go on.
func TestTokensMany(t *testing.T) {
	m := driven(t, makes("one"))
	for i := range 64 {
		does(t, m, with(fmt.Sprintf("t%02d", i*5%64), puts("one", fmt.Sprintf("k%02d", i), i)), api.Out{ID: 2 + i, Sum: digits(i)})
	}
	for _, c := range []api.Cmd{puts("one", "new", 1), makes("two"), makes("one"), drops("not"), marks("one", "k00")} {
		before := saidBy(t, m)
		does(t, m, with("fresh", c), failed(api.ErrMany))
		before.index++
		if m.Save() != before.text() {
			t.Errorf("what could not be kept was done: %s", short(c))
		}
	}
	noKey(t, m, "one", "new", api.ErrKey)
	does(t, m, with("t05", puts("one", "k01", 1)), api.Out{ID: 3, Sum: digits(1)})
	does(t, m, with("t05", puts("one", "k01", 2)), failed(api.ErrClash))
	id := m.Index() + 1
	does(t, m, puts("one", "new", 1), api.Out{ID: id, Sum: digits(1)}) // without a token there is room
	does(t, m, expires(2), api.Out{ID: 1})
	does(t, m, with("fresh", makes("two")), api.Out{})
	does(t, m, with("other", makes("three")), failed(api.ErrMany))
	if len(m.Tokens()) != 64 {
		t.Errorf("%d tokens", len(m.Tokens()))
	}
}

// Promises 17.1 and 17.3: CmdExpire below, at and above an At; what has expired is done anew, by another command too.
func TestExpire(t *testing.T) {
	for _, upto := range []int{0, 1, 4, 5, 6, 7, 8, 9, 50, 1 << 40} {
		m := driven(t, makes("one"))
		a, b, c := with("a", puts("one", "a", 1)), with("b", puts("one", "b", 2)), with("c", puts("one", "c", 3))
		m.Apply(5, b)
		m.Apply(7, a)
		m.Apply(8, c)
		m.Apply(9, b)
		var left []api.Held
		went := 0
		for _, x := range []struct {
			c      api.Cmd
			at, id int
		}{{a, 7, 1}, {b, 5, 2}, {c, 8, 3}} {
			if x.at <= upto {
				went++
			} else {
				left = append(left, held(x.c, api.Out{ID: x.at, Sum: digits(x.id)}, x.at))
			}
		}
		does(t, m, expires(upto), api.Out{ID: went})
		same(t, "Tokens", m.Tokens(), left)
		does(t, m, expires(upto), api.Out{})
		if upto >= 5 {
			does(t, m, with("b", makes("two")), api.Out{})
			does(t, m, b, failed(api.ErrClash))
		} else {
			does(t, m, b, api.Out{ID: 5, Sum: digits(2)})
		}
		if upto >= 7 {
			id := m.Index() + 1
			does(t, m, a, api.Out{ID: id, Sum: digits(1)})
			does(t, m, a, api.Out{ID: id, Sum: digits(1)})
		} else {
			does(t, m, a, api.Out{ID: 7, Sum: digits(1)})
		}
	}
	m := meta.New()
	does(t, m, expires(0), api.Out{})
	does(t, m, expires(1<<40), api.Out{})
}

// Promise 17.3: CmdExpire up to an index that is still to come takes those that are kept, not those that will be.
func TestExpireAhead(t *testing.T) {
	m := driven(t, with("t", makes("one")))
	does(t, m, expires(1<<40), api.Out{ID: 1})
	does(t, m, with("t", puts("one", "k", 1)), api.Out{ID: 3, Sum: digits(1)})
	does(t, m, with("t", puts("one", "k", 1)), api.Out{ID: 3, Sum: digits(1)})
	isChain(t, m, "one", "k", object(3, 1))
}
