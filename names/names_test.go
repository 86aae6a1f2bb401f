package names_test

import (
	"fmt"
	"math"
	"math/rand"
	"slices"
	"strings"
	"testing"
	"unsafe"

	"stowage/api"
	"stowage/names"
)

// rep is one text n times.
func rep(s string, n int) string { return strings.Repeat(s, n) }

// says asks a question of texts that has one answer.
func says(t *testing.T, what string, ask func(s string) bool, want bool, texts ...string) {
	t.Helper()
	for _, s := range texts {
		if ask(s) != want {
			t.Errorf("%s(%.80q), %d bytes: %v", what, s, len(s), !want)
		}
	}
}

// Promise 12.1: which texts are names of buckets, from both sides of each bound.
func TestBucket(t *testing.T) {
	says(t, "Bucket", names.Bucket, true, "abc", "a-b", "a.b", "0.9", "a-b.c", "a--b", "a.-b", "a-.b", "a.b.c", "123", "z0z", rep("a", 3), rep("a", 62), rep("z", 63), "a"+rep(".b", 31), "a"+rep("-", 61)+"b")
	says(t, "Bucket", names.Bucket, false, "", "a", "ab", "..", "...", "---", rep("a", 64), rep("a", 65), rep("a", 1000), "a"+rep(".b", 32), ".ab", "-ab", "ab.", "ab-", "a..b", "a...b", "ab..cd", "a.b..c", "a..b.c", "Abc", "aBc", "abC", "a_b", "a b", "abc ", " abc", "abc\n", "a/b", "ä--", "a\x00b", "ab\x80c")
}

// Promise 12.1: each byte at the front, within and at the end of a bucket's name.
func TestBucketBytes(t *testing.T) {
	for c := range 256 {
		s := string([]byte{byte(c)})
		ends := strings.Contains("abcdefghijklmnopqrstuvwxyz0123456789", s)
		within := ends || s == "." || s == "-"
		says(t, "Bucket", names.Bucket, ends, s+"bc", "ab"+s, s+rep("b", 62), rep("b", 62)+s)
		says(t, "Bucket", names.Bucket, within, "a"+s+"c", "a"+s+rep("c", 61), rep("a", 61)+s+"c")
	}
}

// Promise 12.1: which texts are keys.
func TestKey(t *testing.T) {
	says(t, "Key", names.Key, true, "a", "/", " ", "\xff", "x y\n", "\x01", "ä", rep("k", 1023), rep("\xff", 1024), "..", "a//b")
	says(t, "Key", names.Key, false, "", rep("k", 1025), rep("k", 100000), rep("k", 1024)+"\x00")
	for c := range 256 {
		s := string([]byte{byte(c)})
		says(t, "Key", names.Key, c != 0, s, s+"b", "a"+s, "a"+s+"b", s+rep("k", 1023), rep("k", 1023)+s)
		says(t, "Key", names.Key, false, s+rep("k", 1024))
	}
}

// Promise 12.1: which texts are clients' tokens.
func TestToken(t *testing.T) {
	says(t, "Token", names.Token, true, "a", "!", "~", "!~", "A-_.:/", rep("t", 63), rep("~", 64))
	says(t, "Token", names.Token, false, "", " ", "a b", rep("t", 65), rep("t", 5000), "a\n", "\x7f", "ä", rep("t", 64)+" ")
	for c := range 256 {
		s := string([]byte{byte(c)})
		says(t, "Token", names.Token, c >= 33 && c <= 126, s, s+"b", "a"+s, "a"+s+"b", s+rep("t", 63), rep("t", 63)+s)
		says(t, "Token", names.Token, false, s+rep("t", 64))
	}
}

// key and folder are items.
func key(name string) api.Item    { return api.Item{Name: name} }
func folder(name string) api.Item { return api.Item{Name: name, Folder: true} }

// folds asks for the items of keys, all of them, and in any order of the keys.
func folds(t *testing.T, keys []string, prefix, delimiter string, want ...api.Item) {
	t.Helper()
	r := rand.New(rand.NewSource(1))
	for range 4 {
		if l, more := names.Fold(keys, prefix, delimiter, "", math.MaxInt); !slices.Equal(l, want) || more {
			t.Errorf("Fold(%q, %q, %q): %v, %v, not %v", keys, prefix, delimiter, l, more, want)
		}
		keys = append(slices.Clone(keys), keys...) // each of them more than once
		r.Shuffle(len(keys), func(i, j int) { keys[i], keys[j] = keys[j], keys[i] })
	}
}

// The example of the chapter.
func TestExample(t *testing.T) {
	keys := []string{"a", "b/1", "b/2", "c"}
	folds(t, keys, "", "/", key("a"), folder("b/"), key("c"))
	folds(t, keys, "b/", "/", key("b/1"), key("b/2"))
	if l, more := names.Fold(keys, "", "/", "b/", 9); !slices.Equal(l, []api.Item{key("c")}) || more {
		t.Errorf("After b/: %v, %v", l, more)
	}
}

// Promise 12.1: what items are, for prefixes and delimiters of all kinds.
func TestFoldItems(t *testing.T) {
	folds(t, nil, "", "")
	folds(t, nil, "a", "/")
	folds(t, []string{}, "", "/")
	folds(t, []string{"b", "a", "b"}, "", "", key("a"), key("b"))
	folds(t, []string{"a/b", "a/c", "a"}, "", "", key("a"), key("a/b"), key("a/c"))
	folds(t, []string{"a", "b"}, "c", "")
	folds(t, []string{"a", "b"}, "ab", "/")
	folds(t, []string{"a", "ab"}, "ab", "/", key("ab"))
	folds(t, []string{"ab", "a", "abc", "b", "ac"}, "ab", "", key("ab"), key("abc"))
	// The order is that of bytes, not that of letters or of lengths.
	folds(t, []string{"b", "B", "\xff", "a", "aa", "\x01", "ä"}, "", "", key("\x01"), key("B"), key("a"), key("aa"), key("b"), key("ä"), key("\xff"))
	folds(t, []string{"a-", "a/x", "a0", "a"}, "", "/", key("a"), key("a-"), folder("a/"), key("a0"))
	// A key that ends with the delimiter, is it, or has it first or twice.
	folds(t, []string{"a/", "/", "/a", "//", "a//b", "a/b"}, "", "/", folder("/"), folder("a/"))
	folds(t, []string{"a/", "a//", "a//b", "a/b", "a/b/c"}, "a/", "/", key("a/"), folder("a//"), key("a/b"), folder("a/b/"))
	folds(t, []string{"a/b/c", "a/b/d", "a/e"}, "a", "/", folder("a/"))
	folds(t, []string{"a/b/c", "a/b/d", "a/e"}, "a/b", "/", folder("a/b/"))
	folds(t, []string{"a/b/c", "a/b/d", "a/e"}, "a/b/", "/", key("a/b/c"), key("a/b/d"))
	folds(t, []string{"a/b/c", "a/b/d", "a/e"}, "a/b/c", "/", key("a/b/c"))
	folds(t, []string{"a/b/c", "a/b/d", "a/e"}, "a/b/c/", "/")
	// A delimiter of several bytes: the first place counts, and it counts whole.
	folds(t, []string{"a--b--c", "a--d", "a-b", "a---", "--"}, "", "--", folder("--"), folder("a--"), key("a-b"))
	folds(t, []string{"xabab", "xab", "xba", "xaab"}, "x", "ab", folder("xaab"), folder("xab"), key("xba"))
	folds(t, []string{"aXYb", "aXb", "aYXb"}, "", "XY", folder("aXY"), key("aXb"), key("aYXb"))
	folds(t, []string{"abc"}, "", "abcd", key("abc"))
	folds(t, []string{"abc"}, "", "abc", folder("abc"))
	// One that stands in the prefix alone, or overlaps its end, is none behind it.
	folds(t, []string{"a/b", "a/c"}, "a/", "/", key("a/b"), key("a/c"))
	folds(t, []string{"a--b", "a--b--c", "a---b"}, "a-", "--", folder("a---"), key("a--b"), folder("a--b--"))
	folds(t, []string{"ab", "abab"}, "a", "ab", key("ab"), folder("abab"))
	folds(t, []string{"a\x00b", "a\x00"}, "", "\x00", folder("a\x00"))
	folds(t, []string{"", "a"}, "", "/", key("a")) // no bytes are greater than no bytes
}

// itemPlain is the item of a key by the words of the chapter, byte by byte.
func itemPlain(k, prefix, delimiter string) (api.Item, bool) {
	if len(k) < len(prefix) || k[:len(prefix)] != prefix {
		return api.Item{}, false
	}
	for end := len(prefix) + len(delimiter); delimiter != "" && end <= len(k); end++ {
		if k[end-len(delimiter):end] == delimiter {
			return folder(k[:end]), true
		}
	}
	return key(k), true
}

// foldPlain lists by going over all again and again.
func foldPlain(keys []string, prefix, delimiter, after string, most int) ([]api.Item, bool) {
	var l []api.Item
	for {
		var least api.Item
		found := false
		for _, k := range keys {
			if x, is := itemPlain(k, prefix, delimiter); is && x.Name > after && (!found || x.Name < least.Name) {
				least, found = x, true
			}
		}
		if !found || len(l) >= most {
			return l, found
		}
		l, after = append(l, least), least.Name
	}
}

// after and most, from both sides of each item and of how many there are.
func TestFoldPages(t *testing.T) {
	keys := []string{"e", "b/1", "a", "b/2", "d//", "e", "c"}
	all := []api.Item{key("a"), folder("b/"), key("c"), folder("d/"), key("e")}
	for _, c := range []struct {
		after string
		from  int
	}{{"", 0}, {"\x00", 0}, {"Z", 0}, {"a", 1}, {"a\x00", 1}, {"b", 1}, {"b.", 1}, {"b/", 2}, {"b/1", 2}, {"b/2", 2}, {"b0", 2}, {"c", 3}, {"d/", 4}, {"d//", 4}, {"dz", 4}, {"e", 5}, {"e\x00", 5}, {"f", 5}, {"\xff\xff", 5}} {
		rest := all[c.from:]
		for _, most := range []int{math.MinInt, -2, -1, 0, 1, 2, 3, 4, 5, 6, 100, math.MaxInt} {
			l, more := names.Fold(keys, "", "/", c.after, most)
			want := rest[:min(max(most, 0), len(rest))]
			if !slices.Equal(l, want) || more != (len(want) < len(rest)) {
				t.Errorf("Fold after %q, most %d: %v, %v, not %v", c.after, most, l, more, want)
			}
		}
	}
	if l, more := names.Fold(nil, "", "", "", 0); len(l) != 0 || more {
		t.Errorf("none of nothing: %v, %v", l, more)
	}
}

// anyText is a short text of few letters, so that texts stand in one another.
func anyText(r *rand.Rand, most int) string {
	b := make([]byte, r.Intn(most+1))
	for i := range b {
		b[i] = "ab/\x00\xff"[min(r.Intn(8), 4)]
	}
	return string(b)
}

// Promises 12.1 and 12.2: drawn keys, held against the plain listing, and page by page.
func TestFoldAny(t *testing.T) {
	folders, long := 0, 0
	for seed := range 4000 {
		r := rand.New(rand.NewSource(int64(seed)))
		var keys []string
		for range r.Intn(30) {
			keys = append(keys, anyText(r, 6))
		}
		prefix, delimiter, after, most := anyText(r, 2), anyText(r, 2), anyText(r, 4), r.Intn(8)-1
		what := fmt.Sprintf("Fold(%q, %q, %q, %q, %d)", keys, prefix, delimiter, after, most)
		before := slices.Clone(keys)
		l, more := names.Fold(keys, prefix, delimiter, after, most)
		want, wantMore := foldPlain(keys, prefix, delimiter, after, most)
		if !slices.Equal(l, want) || more != wantMore || !slices.Equal(keys, before) {
			t.Fatalf("%s: %v, %v, not %v, %v", what, l, more, want, wantMore)
		}
		all, _ := names.Fold(keys, prefix, delimiter, "", math.MaxInt)
		covers(t, what, keys, prefix, all)
		pages(t, what, keys, prefix, delimiter, max(most, 1), all)
		for _, x := range all {
			if x.Folder {
				folders++
			}
		}
		if len(all) > 5 {
			long++
		}
	}
	if folders < 1000 || long < 500 {
		t.Errorf("too little happened: %d folders, %d long lists", folders, long)
	}
}

// covers asks that each key with the prefix is an item, or begins with one that is a folder.
func covers(t *testing.T, what string, keys []string, prefix string, all []api.Item) {
	t.Helper()
	for _, k := range keys {
		in := slices.ContainsFunc(all, func(x api.Item) bool {
			return x == key(k) || x.Folder && strings.HasPrefix(k, x.Name)
		})
		// The empty name is greater than no after, so it is told by none.
		if want := strings.HasPrefix(k, prefix) && k != ""; in != want {
			t.Fatalf("%s: %q is told: %v", what, k, in)
		}
	}
}

// pages asks that page by page all items come, in order, each once.
func pages(t *testing.T, what string, keys []string, prefix, delimiter string, most int, all []api.Item) {
	t.Helper()
	var got []api.Item
	after := ""
	for more := true; more; {
		var l []api.Item
		l, more = names.Fold(keys, prefix, delimiter, after, most)
		if more && len(l) != most || len(got) > len(all) {
			t.Fatalf("%s: a page %v, %v", what, l, more)
		}
		got = append(got, l...)
		if len(l) > 0 {
			after = l[len(l)-1].Name
		}
	}
	if !slices.Equal(got, all) {
		t.Fatalf("%s: page by page %v, not %v", what, got, all)
	}
}

// Rule R3: the keys stay as they are, and what is answered is of its own memory.
func TestFoldSharesNothing(t *testing.T) {
	keys := []string{"c" + rep("x", 20), "b/" + rep("y", 20), "a"}
	before := slices.Clone(keys)
	l, _ := names.Fold(keys, "", "/", "", 9)
	again, _ := names.Fold(keys, "", "/", "", 9)
	if !slices.Equal(keys, before) {
		t.Errorf("the keys are %q", keys)
	}
	for i, x := range l {
		for _, s := range append([]string{again[i].Name}, keys...) {
			if unsafe.StringData(x.Name) == unsafe.StringData(s) {
				t.Errorf("%q is one memory with %q", x.Name, s)
			}
		}
	}
	l[0].Name = "changed"
	if again[0].Name != "a" {
		t.Errorf("two answers are one memory")
	}
}

// Promise 12.1: many keys, each with the limit's bytes.
func TestFoldMany(t *testing.T) {
	var keys []string
	for i := range 5000 {
		keys = append(keys, fmt.Sprintf("%d/", i%7)+rep("k", 1000)+fmt.Sprint((i*31)%5000))
	}
	l, more := names.Fold(keys, "", "/", "", 7)
	if len(l) != 7 || more || l[6] != folder("6/") {
		t.Errorf("seven folders: %v, %v", l, more)
	}
	l, more = names.Fold(keys, "3/", "/", "", 100)
	if len(l) != 100 || !more || !slices.IsSortedFunc(l, func(a, b api.Item) int { return strings.Compare(a.Name, b.Name) }) {
		t.Errorf("a hundred keys: %d, %v", len(l), more)
	}
}

// Rule R1: any bytes.
func FuzzFold(f *testing.F) {
	f.Add("a\nb/1\nb/2\nc", "", "/", "", 2)
	f.Add("a--b\na---", "a-", "--", "a", -1)
	f.Fuzz(func(t *testing.T, text, prefix, delimiter, after string, most int) {
		names.Bucket(text)
		names.Key(text)
		names.Token(text)
		keys := strings.Split(text, "\n")
		l, more := names.Fold(keys, prefix, delimiter, after, most)
		want, wantMore := foldPlain(keys, prefix, delimiter, after, most)
		if !slices.Equal(l, want) || more != wantMore {
			t.Errorf("Fold(%q, %q, %q, %q, %d): %v, %v, not %v, %v", keys, prefix, delimiter, after, most, l, more, want, wantMore)
		}
	})
}
