package cmd_test

import (
	"crypto/sha256"
	"encoding/binary"
	"fmt"
	"math"
	"math/rand"
	"runtime"
	"slices"
	"strings"
	"testing"

	"stowage/api"
	"stowage/cmd"
	"stowage/digest"
)

// The example of the chapter.
func TestExample(t *testing.T) {
	if s, e := cmd.Encode(api.Cmd{Kind: api.CmdMake, Bucket: "one"}); s != "\x01\x00\x03one" || e != api.OK {
		t.Errorf("Encode: %q, %v", s, e)
	}
}

// Promise 16.1: each kind, with each field that it has at its bounds and beyond them.
func TestCheck(t *testing.T) {
	for _, c := range good() {
		if e := cmd.Check(c); e != api.OK {
			t.Errorf("Check of %s: %v", short(c), e)
		}
	}
	for _, c := range bad() {
		refused(t, "beyond a bound", c)
	}
	if len(good()) < 200 || len(bad()) < 200 {
		t.Errorf("%d good, %d bad", len(good()), len(bad()))
	}
}

// Promise 16.1: each kind, with each field that it has not set to something, be it right elsewhere or nowhere.
func TestCheckOtherFields(t *testing.T) {
	for _, kind := range kinds() {
		for _, f := range fieldNames() {
			if hasField(kind, f) {
				continue
			}
			for _, v := range values(kind, f) {
				c := set(plain(kind), f, v.v)
				if !isNothing(v.v) {
					refused(t, f+" of another kind", c)
				} else if e := cmd.Check(c); e != api.OK {
					t.Errorf("Check with no %s: %v, of %s", f, e, short(c))
				}
			}
		}
	}
}

// Promise 16.1: a Token at each kind, and none; an ID of 0 at each kind.
func TestCheckToken(t *testing.T) {
	for _, kind := range kinds() {
		bare := set(plain(kind), "Token", "")
		if e := cmd.Check(bare); e != api.OK {
			t.Errorf("Check of the kind %d without a Token: %v", kind, e)
		}
		c := set(bare, "Token", "t")
		if e := cmd.Check(c); (e == api.OK) != (kind != api.CmdExpire) {
			t.Errorf("Check of the kind %d with a Token: %v", kind, e)
		}
		zero := set(plain(kind), "ID", 0)
		want := api.OK
		if kind == api.CmdErase || kind == api.CmdPart || kind == api.CmdJoin || kind == api.CmdStop {
			want = api.ErrArg
		}
		if e := cmd.Check(zero); e != want {
			t.Errorf("Check of the kind %d with the ID 0: %v", kind, e)
		}
	}
}

// serves tells whether the fields of one kind may be another's: it has all of them, and wants no more, but lists, which may be empty, and a Token.
func serves(kind, other int) bool {
	for _, f := range fieldNames() {
		wants := f != "Token" && f != "Pieces" && f != "Picks"
		if hasField(other, f) && !hasField(kind, f) || wants && hasField(kind, f) && !hasField(other, f) {
			return false
		}
	}
	return true
}

// Promise 16.1: kinds that are none, with the fields of any kind, and with none.
func TestCheckKind(t *testing.T) {
	for _, none := range []int{0, -1, -2, -10, 11, 12, 16, 64, 255, 256, 1<<32 + 1, 1<<63 - 1, math.MinInt, math.MinInt + 1} {
		refused(t, "no kind", api.Cmd{Kind: none})
		for _, kind := range kinds() {
			refused(t, "no kind", set(plain(kind), "Kind", none))
		}
	}
	// The fields of one kind with the name of another.
	for _, kind := range kinds() {
		for _, other := range kinds() {
			c := set(plain(other), "Kind", kind)
			if !serves(kind, other) {
				refused(t, "another kind", c)
			} else if e := cmd.Check(c); e != api.OK {
				t.Errorf("Check of %s: %v", short(c), e)
			}
		}
	}
	refused(t, "nothing", api.Cmd{})
}

// Promise 16.1: each byte in a Sum, in a pick's and in a piece's id.
func TestCheckDigits(t *testing.T) {
	for x := range 256 {
		for _, at := range []int{0, 31, 63} {
			b := []byte(digits(0))
			b[at] = byte(x)
			s := string(b)
			want := api.ErrArg
			if x >= '0' && x <= '9' || x >= 'a' && x <= 'f' {
				want = api.OK
			}
			for _, c := range []api.Cmd{set(plain(api.CmdPut), "Sum", s), set(plain(api.CmdPart), "Sum", s), set(plain(api.CmdPut), "Pieces", []api.Piece{{ID: s, Size: 1}}), set(plain(api.CmdJoin), "Picks", []api.Pick{{N: 1, Sum: s}})} {
				if e := cmd.Check(c); e != want {
					t.Errorf("Check of %s: %v", short(c), e)
				}
			}
		}
	}
}

// mayBe tells whether a command may be, field by field, by the values that were drawn for it.
func mayBe(kind int, drawn map[string]value) bool {
	for name, v := range drawn {
		if hasField(kind, name) && !v.right || !hasField(kind, name) && !isNothing(v.v) {
			return false
		}
	}
	return has(kind) != ""
}

// Promises 16.1 and 16.3: drawn commands, mostly of values that are right, with several that are wrong at once.
func TestAny(t *testing.T) {
	r := rand.New(rand.NewSource(1))
	all := map[int]map[string][]value{}
	for kind := range 12 {
		all[kind] = map[string][]value{}
		for _, f := range fieldNames() {
			all[kind][f] = values(kind, f)
		}
	}
	fine, wrong := 0, 0
	for range 20000 {
		kind := r.Intn(12)
		c := api.Cmd{Kind: kind}
		drawn := map[string]value{}
		for _, f := range fieldNames() {
			if !hasField(kind, f) && r.Intn(20) > 0 {
				continue
			}
			v := all[kind][f][r.Intn(len(all[kind][f]))]
			for !v.right && r.Intn(10) > 0 {
				v = all[kind][f][r.Intn(len(all[kind][f]))]
			}
			drawn[f] = v
			c = set(c, f, v.v)
		}
		if !mayBe(kind, drawn) {
			wrong++
			refused(t, "drawn", c)
			continue
		}
		fine++
		s, e := cmd.Encode(c)
		if s != textOf(c) || e != api.OK || cmd.Check(c) != api.OK {
			t.Errorf("Encode of %s: %.80q, %v", short(c), s, e)
		}
		if d, e := cmd.Decode(s); e != api.OK || !equal(c, d) {
			t.Errorf("Decode of the text of %s: %s, %v", short(c), short(d), e)
		}
	}
	if fine < 1000 || wrong < 1000 {
		t.Errorf("%d fine, %d wrong", fine, wrong)
	}
}

// digestOf is the digest that the chapter says.
func digestOf(c api.Cmd) string {
	told := textOf(set(c, "Token", ""))
	b := binary.BigEndian.AppendUint64([]byte("C"), uint64(len(told)))
	return fmt.Sprintf("%x", sha256.Sum256(append(b, told...)))
}

// Promises 16.1 and 16.3: digests are of the command without its Token, and do not hang on it.
func TestDigest(t *testing.T) {
	for _, c := range good() {
		d, e := cmd.Digest(c)
		if d != digestOf(c) || e != api.OK {
			t.Errorf("Digest of %s: %q, %v", short(c), d, e)
		}
		if c.Kind == api.CmdExpire {
			continue
		}
		for _, v := range values(c.Kind, "Token") {
			other := set(c, "Token", v.v)
			if !v.right {
				refused(t, "a Token that may not be", other)
			} else if got, e := cmd.Digest(other); got != d || e != api.OK {
				t.Errorf("Digest with the Token %q: %q, %v, not %q", v.v, got, e, d)
			}
		}
	}
	c := api.Cmd{Kind: api.CmdMake, Bucket: "one"}
	if d, e := cmd.Digest(c); d != digest.Hex(digest.Tagged('C', "\x01\x00\x03one")) || e != api.OK {
		t.Errorf("Digest: %q, %v", d, e)
	}
}

// Promise 16.3: commands that are not the same have other texts, and, beside their Tokens, other digests.
func TestTextsDiffer(t *testing.T) {
	texts, digests := map[string]api.Cmd{}, map[string]api.Cmd{}
	for _, c := range good() {
		s, _ := cmd.Encode(c)
		d, _ := cmd.Digest(c)
		bare := set(c, "Token", "")
		if old, is := texts[s]; is && !equal(old, c) {
			t.Errorf("one text: %s; %s", short(old), short(c))
		}
		if old, is := digests[d]; is && !equal(old, bare) {
			t.Errorf("one digest: %s; %s", short(old), short(c))
		}
		texts[s], digests[d] = c, bare
	}
	if len(texts) < 150 || len(digests) < 100 {
		t.Errorf("%d texts, %d digests", len(texts), len(digests))
	}
}

// roomy is a command with others behind the ends of its lists, which no call may touch.
func roomy(c api.Cmd) api.Cmd {
	c.Token, c.Bucket, c.Key, c.Sum = strings.Clone(c.Token), strings.Clone(c.Bucket), strings.Clone(c.Key), strings.Clone(c.Sum)
	c.Pieces = append(slices.Clone(c.Pieces), api.Piece{ID: "behind", Size: 7}, api.Piece{ID: "behind", Size: 6})[:len(c.Pieces)]
	c.Picks = append(slices.Clone(c.Picks), api.Pick{N: 7, Sum: "behind"}, api.Pick{N: 6, Sum: "behind"})[:len(c.Picks)]
	return c
}

// untouched asks that a command is as it was made, also behind the ends of its lists.
func untouched(t *testing.T, c, made api.Cmd) {
	t.Helper()
	pieces, picks := c.Pieces[len(c.Pieces):len(c.Pieces)+2], c.Picks[len(c.Picks):len(c.Picks)+2]
	if !equal(c, made) || pieces[0].Size != 7 || pieces[1].Size != 6 || picks[0].N != 7 || picks[1].N != 6 {
		t.Errorf("what was handed in is %s, not %s; behind it %v, %v", short(c), short(made), pieces, picks)
	}
}

// Rule R3: what is handed in is not changed, and what is answered is of its own memory, list by list and text by text.
func TestSharesNothing(t *testing.T) {
	var all []span
	var answers []any // what was answered stays, so that its memory is not another one's later on
	take := func(what string, answer any, own ...span) {
		t.Helper()
		answers = append(answers, answer)
		all = append(all, own...)
		disjoint(t, what, all)
	}
	for _, kind := range kinds() {
		c := roomy(plain(kind))
		take("what is handed in", c, spans(c)...)
		for range 2 {
			cmd.Check(c)
			s, _ := cmd.Encode(c)
			take("Encode", s, textSpan(s))
			d, _ := cmd.Digest(c)
			take("Digest", d, textSpan(d))
			got, _ := cmd.Decode(s)
			take("Decode", got, spans(got)...)
			untouched(t, c, plain(kind))
		}
	}
	for range 2 {
		o := api.Out{Code: 3, ID: 9, Sum: rep("s", 64)}
		take("what is handed in", o, textSpan(o.Sum))
		s, _ := cmd.EncodeOut(o)
		take("EncodeOut", s, textSpan(s))
		got, _ := cmd.DecodeOut(s)
		take("DecodeOut", got, textSpan(got.Sum))
	}
	if len(all) < 200 {
		t.Errorf("%d stretches of memory", len(all))
	}
	runtime.KeepAlive(answers)
}

// Rule R3: calls that are refused change nothing, either.
func TestRefusedChangesNothing(t *testing.T) {
	for _, made := range bad() {
		c := roomy(made)
		refused(t, "bad", c)
		untouched(t, c, made)
	}
}
