package route_test

import (
	"strconv"
	"strings"
	"testing"

	"stowage/api"
	"stowage/route"
)

// The examples of the chapter.
func TestExample(t *testing.T) {
	routes(t, req("GET", "/one?prefix=a%2F&most=2"), api.Want{Kind: api.WantKeys, Bucket: "one", Prefix: "a/", Most: 2})
	routes(t, req("DELETE", "/one/k?version=7"), cmd(api.Cmd{Kind: api.CmdErase, Bucket: "one", Key: "k", ID: 7}))
	refuses(t, req("POST", "/one"), api.ErrWay)
}

// Promise 20.1: each row; heads that are no token, and Close, count for nothing.
func TestRows(t *testing.T) {
	for _, s := range samples() {
		routes(t, s.r, s.w)
		r := s.r
		r.Close = true
		r.Heads = []api.Pair{{Name: "host", Value: "h"}, {Name: "X-Token", Value: "a b"}, {Name: "x-tokens", Value: "a b"}, {Name: "", Value: ""}}
		routes(t, r, s.w)
	}
}

// Promise 20.1: each word of each row left out, there twice, and with more words; words in another order, and with escapes.
func TestWords(t *testing.T) {
	known := []string{"upto", "uploads", "prefix", "delimiter", "after", "most", "upload", "part", "version"}
	for _, s := range samples() {
		var words []string
		if s.r.Query != "" {
			words = strings.Split(s.r.Query, "&")
		}
		with := func(words ...string) api.Req {
			r := s.r
			r.Query = strings.Join(words, "&")
			return r
		}
		for i, word := range words {
			others := append(append([]string{}, words[:i]...), words[i+1:]...)
			asPlain(t, with(others...))
			routes(t, with(append(others, word)...), s.w) // in another order
			refuses(t, with(append(words, word)...), api.ErrForm)
			name, _, _ := strings.Cut(word, "=")
			refuses(t, with(append(words, name)...), api.ErrForm)
			refuses(t, with(append(words, name+"=1")...), api.ErrForm)
			refuses(t, with(append(others, strings.ToUpper(name)+word[len(name):])...), api.ErrForm)
			routes(t, with(append(others, "%"+strconv.FormatInt(int64(word[0]), 16)+word[1:])...), s.w)
		}
		for _, more := range []string{"x", "x=1", "a=b", "versions=1", "Version=1", "upload%20=1", "+", "token=t"} {
			refuses(t, with(append(words, more)...), api.ErrForm)
			refuses(t, with(append([]string{more}, words...)...), api.ErrForm)
		}
		for _, more := range known {
			for _, value := range []string{"", "=", "=1", "=0", "=x"} {
				asPlain(t, with(append(words, more+value)...))
				asPlain(t, with(append([]string{more + value}, words...)...))
			}
		}
	}
	for target, want := range map[string]api.Errno{"/_expire": api.ErrForm, "/one/k": api.ErrForm} { // what must be is missing
		refuses(t, req("POST", target), want)
	}
	refuses(t, req("PUT", "/one/k?upload=7", "x"), api.ErrForm)
	refuses(t, req("PUT", "/one/k?part=7", "x"), api.ErrForm)
	refuses(t, req("POST", "/one/k?version=7"), api.ErrForm)
	refuses(t, req("POST", "/one/k?part=7"), api.ErrForm)
}

// Promise 20.1: uploads has no value; prefix, delimiter and after have any.
func TestValues(t *testing.T) {
	for _, r := range []api.Req{req("GET", "/one?uploads"), req("POST", "/one/k?uploads")} {
		want, _ := route.Route(r)
		for value, fine := range map[string]bool{"": true, "=": true, "==": false, "=1": false, "=x": false, "=+": false, "=%00": false, "=uploads": false} {
			q := r
			q.Query += value
			if fine {
				routes(t, q, want)
			} else {
				refuses(t, q, api.ErrForm)
			}
		}
	}
	for value, says := range map[string]string{"": "", "=": "", "=a": "a", "=%2F": "/", "=/": "/", "=+": " ", "==": "=", "=%00%fF": "\x00\xff", "=" + rep("a", 3000): rep("a", 3000), "=?": "?", "=01": "01"} {
		routes(t, req("GET", "/one?prefix"+value), api.Want{Kind: api.WantKeys, Bucket: "one", Prefix: says, Most: 100})
		routes(t, req("GET", "/one?delimiter"+value), api.Want{Kind: api.WantKeys, Bucket: "one", Delimiter: says, Most: 100})
		routes(t, req("GET", "/one?after"+value), api.Want{Kind: api.WantKeys, Bucket: "one", After: says, Most: 100})
		routes(t, req("GET", "/one?most=1000&after"+value+"&delimiter"+value+"&prefix"+value), api.Want{Kind: api.WantKeys, Bucket: "one", Prefix: says, Delimiter: says, After: says, Most: 1000})
	}
}

// Promise 20.1: numbers: what is one, and their bounds, in each word and in the path.
func TestNumbers(t *testing.T) {
	const most = 1 << 40
	for _, c := range []struct {
		method, ahead, behind string
		least, most           int
		want                  func(n int) api.Want
	}{
		{"PUT", "/_nodes/", "", 0, 6, func(n int) api.Want { return api.Want{Kind: api.WantNode, Node: n, Add: true} }},
		{"DELETE", "/_nodes/", "", 0, 6, func(n int) api.Want { return api.Want{Kind: api.WantNode, Node: n} }},
		{"POST", "/_expire?upto=", "", 0, most, func(n int) api.Want { return cmd(api.Cmd{Kind: api.CmdExpire, ID: n}) }},
		{"GET", "/one?most=", "", 1, 1000, func(n int) api.Want { return api.Want{Kind: api.WantKeys, Bucket: "one", Most: n} }},
		{"GET", "/one?prefix=a&most=", "&after=b", 1, 1000, func(n int) api.Want {
			return api.Want{Kind: api.WantKeys, Bucket: "one", Prefix: "a", After: "b", Most: n}
		}},
		{"PUT", "/one/k?upload=", "&part=3", 1, most, func(n int) api.Want { return cmd(api.Cmd{Kind: api.CmdPart, Bucket: "one", Key: "k", ID: n, N: 3}) }},
		{"PUT", "/one/k?upload=3&part=", "", 1, 100, func(n int) api.Want { return cmd(api.Cmd{Kind: api.CmdPart, Bucket: "one", Key: "k", ID: 3, N: n}) }},
		{"GET", "/one/k?upload=", "", 1, most, func(n int) api.Want { return api.Want{Kind: api.WantParts, Bucket: "one", Key: "k", ID: n} }},
		{"GET", "/one/k?version=", "", 1, most, func(n int) api.Want { return api.Want{Kind: api.WantRead, Bucket: "one", Key: "k", ID: n} }},
		{"HEAD", "/one/k?version=", "", 1, most, func(n int) api.Want {
			return api.Want{Kind: api.WantRead, Bucket: "one", Key: "k", ID: n, Head: true}
		}},
		{"DELETE", "/one/k?version=", "", 1, most, func(n int) api.Want { return cmd(api.Cmd{Kind: api.CmdErase, Bucket: "one", Key: "k", ID: n}) }},
		{"DELETE", "/one/k?upload=", "", 1, most, func(n int) api.Want { return cmd(api.Cmd{Kind: api.CmdStop, Bucket: "one", Key: "k", ID: n}) }},
		{"POST", "/one/k?upload=", "", 1, most, func(n int) api.Want { return cmd(api.Cmd{Kind: api.CmdJoin, Bucket: "one", Key: "k", ID: n}) }},
	} {
		for _, n := range []int{0, 1, 2, 5, 6, 7, 8, 99, 100, 101, 999, 1000, 1001, 1 << 32, most - 1, most, most + 1, 2 * most, 9999999999999, 10000000000000} {
			r := req(c.method, c.ahead+strconv.Itoa(n)+c.behind)
			if n >= c.least && n <= c.most {
				routes(t, r, c.want(n))
			} else {
				refuses(t, r, api.ErrForm)
			}
		}
		for _, s := range []string{"00", "01", "001", "000000000001", "0000000000001", "00000000000001", "-1", "-0", "%2B1", "+1", "%201", "1%20", "1+", "x", "1x", "x1", "0x1", "1e2", "1.0", "1_0", "1,0", "%00", "1%00", "1%0A", "10995116277760", "18446744073709551617", "99999999999999999999999999", "%D9%A1", "one"} {
			refuses(t, req(c.method, c.ahead+s+c.behind), api.ErrForm)
		}
		if c.ahead != "/_nodes/" {
			refuses(t, req(c.method, c.ahead+c.behind), api.ErrForm)
			refuses(t, req(c.method, strings.TrimSuffix(c.ahead, "=")+c.behind), api.ErrForm)
		}
		routes(t, req(c.method, c.ahead+"%31"+c.behind), c.want(1))
	}
	routes(t, req("GET", "/one"), api.Want{Kind: api.WantKeys, Bucket: "one", Most: 100})
	routes(t, req("GET", "/one/k"), api.Want{Kind: api.WantRead, Bucket: "one", Key: "k"})
}

// Promise 20.1: which row counts where a query has words of two.
func TestWhichRow(t *testing.T) {
	for _, target := range []string{"/one?uploads&prefix=a", "/one?most=3&uploads", "/one?prefix&uploads", "/one/k?upload=1&version=2", "/one/k?version=2&upload=1"} {
		refuses(t, req("GET", target), api.ErrForm)
		refuses(t, req("HEAD", strings.Replace(target, "/one?", "/one/k?", 1)), api.ErrForm)
	}
	for _, target := range []string{"/one/k?version=1&upload=2", "/one/k?upload=2&version=1", "/one/k?upload=x&version=1", "/one/k?uploads", "/one/k?part=1"} {
		refuses(t, req("DELETE", target), api.ErrForm)
	}
	for _, target := range []string{"/one/k?uploads&upload=1", "/one/k?upload=1&uploads", "/one/k?upload=1&part=1"} {
		refuses(t, req("POST", target), api.ErrForm)
	}
	for _, target := range []string{"/one/k?version=1", "/one/k?uploads", "/one/k?part=1&upload=0", "/one/k?upload=1&part=1&version=1"} {
		refuses(t, req("PUT", target), api.ErrForm)
	}
	refuses(t, req("HEAD", "/one/k?upload=1"), api.ErrForm)
	routes(t, req("PUT", "/one/k?part=4&upload=5"), cmd(api.Cmd{Kind: api.CmdPart, Bucket: "one", Key: "k", ID: 5, N: 4}))
}

// Promise 20.1: what a path says.
func TestPaths(t *testing.T) {
	long := rep("k", 1024)
	for path, want := range map[string]api.Want{
		"/":  {Kind: api.WantBuckets},
		"//": {Kind: api.WantBuckets}, "/%2F": {Kind: api.WantBuckets},
		"/one": {Kind: api.WantKeys, Bucket: "one", Most: 100}, "/one/": {Kind: api.WantKeys, Bucket: "one", Most: 100}, "/%6fne": {Kind: api.WantKeys, Bucket: "one", Most: 100}, "/one%2F": {Kind: api.WantKeys, Bucket: "one", Most: 100},
		"/" + rep("b", 63): {Kind: api.WantKeys, Bucket: rep("b", 63), Most: 100}, "/a.b-c": {Kind: api.WantKeys, Bucket: "a.b-c", Most: 100}, "/nodes": {Kind: api.WantKeys, Bucket: "nodes", Most: 100},
		"/one/k": {Kind: api.WantRead, Bucket: "one", Key: "k"}, "/one//": {Kind: api.WantRead, Bucket: "one", Key: "/"}, "/one//k": {Kind: api.WantRead, Bucket: "one", Key: "/k"}, "/one/k/": {Kind: api.WantRead, Bucket: "one", Key: "k/"},
		"/one/a/b/c": {Kind: api.WantRead, Bucket: "one", Key: "a/b/c"}, "/one/a%2Fb": {Kind: api.WantRead, Bucket: "one", Key: "a/b"}, "/one%2Fk": {Kind: api.WantRead, Bucket: "one", Key: "k"}, "/one/%01%ff%20+": {Kind: api.WantRead, Bucket: "one", Key: "\x01\xff +"},
		"/one/" + long: {Kind: api.WantRead, Bucket: "one", Key: long}, "/one/" + rep("%6B", 1024): {Kind: api.WantRead, Bucket: "one", Key: long}, "/one/../two": {Kind: api.WantRead, Bucket: "one", Key: "../two"}, "/one/_nodes/1": {Kind: api.WantRead, Bucket: "one", Key: "_nodes/1"},
		"/one/&=;": {Kind: api.WantRead, Bucket: "one", Key: "&=;"},
	} {
		routes(t, req("GET", path), want)
	}
	for _, path := range []string{
		"", "one", "one/k", "xone", "xone/k", "x/one", "x_nodes/1", "%", "/%", "/%4", "/%4g", "/one/%", "/a b", "/one/a b", "/one/k#", "/one/k\x00", "/one/\x80", "/one/ä",
		"/x", "/on", "/One", "/one_", "/-one", "/one-", "/.one", "/one.", "/a..b", "/one%20", "/ONE/k", "/x/k", "/" + rep("b", 64), "/" + rep("b", 64) + "/k", "//k", "///", "/%00", "/one%00", "/_", "/_node", "/_nodess", "/_nodess/1", "/_Nodes/1", "/__nodes/1", "/_expires", "/_expires/", "/nodes_/1",
		"/one/%00", "/one/a%00b", "/one/" + long + "k", "/one/" + rep("%6B", 1025), "/_nodes/%00", "/_nodes/" + long + "1", "/_expire/%00", "/_expire/" + long + "x", "/../one",
	} {
		for _, method := range []string{"GET", "PUT", "POST", "BREW", ""} {
			refuses(t, api.Req{Method: method, Path: path}, api.ErrForm)
		}
	}
	// A question mark belongs to no path.
	refuses(t, api.Req{Method: "GET", Path: "/one?prefix=a"}, api.ErrForm)
}

// Promise 20.1: _nodes and _expire with more or less behind them.
func TestSpecialPaths(t *testing.T) {
	for _, path := range []string{"/_nodes", "/_nodes/", "/%5Fnodes", "/_expire/x", "/_expire//", "/_expire/1", "/_expire%2Fx"} {
		for _, method := range []string{"GET", "HEAD", "PUT", "POST", "DELETE", "BREW"} {
			refuses(t, req(method, path), api.ErrNone)
			refuses(t, req(method, path+"?upto=1&&", "body"), api.ErrNone)
		}
	}
	for _, method := range []string{"PUT", "DELETE"} {
		for _, path := range []string{"/_nodes/7", "/_nodes/x", "/_nodes/1/", "/_nodes/1/2", "/_nodes//1", "/_nodes//", "/_nodes/00", "/_nodes/-1", "/_nodes/0%201"} {
			refuses(t, req(method, path), api.ErrForm)
			refuses(t, req("GET", path), api.ErrWay)
		}
		routes(t, req(method, "/_nodes/4"), api.Want{Kind: api.WantNode, Node: 4, Add: method == "PUT"})
		routes(t, req(method, "/%5fnodes%2f4"), api.Want{Kind: api.WantNode, Node: 4, Add: method == "PUT"})
		refuses(t, req(method, "/_nodes/4?upto=1"), api.ErrForm)
		refuses(t, req(method, "/_nodes/4", "x"), api.ErrForm)
	}
	routes(t, req("POST", "/_expire/?upto=5"), cmd(api.Cmd{Kind: api.CmdExpire, ID: 5}))
	refuses(t, req("POST", "/_expire?upto=5", "x"), api.ErrForm)
}

// Promise 20.1: each method at each form of path, known or not.
func TestMethods(t *testing.T) {
	for path, methods := range map[string]string{"/": "GET", "/_nodes/1": "PUT DELETE", "/_expire": "POST", "/one": "GET PUT DELETE", "/one/": "GET PUT DELETE", "/one/k": "GET HEAD PUT POST DELETE"} {
		for _, method := range []string{"GET", "HEAD", "PUT", "POST", "DELETE", "PATCH", "BREW", "", "get", "GET ", "put", "GETT"} {
			has := method != "" && strings.Contains(" "+methods+" ", " "+method+" ") && !strings.Contains(method, " ")
			for _, query := range []string{"", "?x", "?&", "?upto=1", "?uploads"} {
				r := req(method, path+query)
				_, e := route.Route(r)
				if has == (e == api.ErrWay) {
					t.Errorf("%s %s: %v", method, path+query, e)
				}
				asPlain(t, r)
			}
			if !has {
				refuses(t, req(method, path, "body"), api.ErrWay)
			}
		}
	}
}

// Promise 20.1: a body where the row has none; bodies of any bytes where it has one.
func TestBodies(t *testing.T) {
	for _, s := range samples() {
		for _, body := range []string{"x", "\x00", "\n", " ", rep("x", 5000)} {
			r, w := s.r, s.w
			r.Body = body
			switch w.Cmd.Kind {
			case api.CmdPut, api.CmdPart:
				w.Body = body
				routes(t, r, w)
			default:
				refuses(t, r, api.ErrForm)
			}
		}
	}
	long := rep("long", 1<<16) // more than http brings
	routes(t, req("PUT", "/one/k", long), put(api.Cmd{Kind: api.CmdPut, Bucket: "one", Key: "k"}, long))
	routes(t, req("PUT", "/one/k?upload=1&part=1", long), put(api.Cmd{Kind: api.CmdPart, Bucket: "one", Key: "k", ID: 1, N: 1}, long))
}

// Promise 20.1: lines of picks.
func TestPicks(t *testing.T) {
	a, digits := sum("a"), "0123456789abcdef"+rep("09af", 12)
	join := func(l ...api.Pick) api.Want {
		return cmd(api.Cmd{Kind: api.CmdJoin, Bucket: "one", Key: "k", ID: 7, Picks: l})
	}
	post := func(body string) api.Req { return req("POST", "/one/k?upload=7", body) }
	routes(t, post(""), join())
	routes(t, post("1 "+a+"\n"), join(api.Pick{N: 1, Sum: a}))
	routes(t, post("0 "+a+"\n"), join(api.Pick{N: 0, Sum: a}))
	routes(t, post("100 "+digits+"\n"), join(api.Pick{N: 100, Sum: digits}))
	routes(t, post("3 "+a+"\n1 "+digits+"\n3 "+a+"\n"), join(api.Pick{N: 3, Sum: a}, api.Pick{N: 1, Sum: digits}, api.Pick{N: 3, Sum: a}))
	line := "1 " + a + "\n"
	for i := 1; i < len(line); i++ {
		refuses(t, post(line[:i]), api.ErrForm)      // cut
		refuses(t, post(line+line[:i]), api.ErrForm) // the last one cut
		refuses(t, post(line[:i-1]+line[i:]), api.ErrForm)
		for _, wrong := range []string{" ", "\n", "g", "A", "\x00", "\r", "%", "+"} {
			refuses(t, post(line+line[:i]+wrong+line[i:]), api.ErrForm)
			if line[i:i+1] != wrong {
				refuses(t, post(line[:i]+wrong+line[i+1:]+line), api.ErrForm)
			}
		}
		if t.Failed() {
			return
		}
	}
	for _, body := range []string{
		"\n", "\n" + line, line + "\n", "1\n", "1 \n", " " + a + "\n", "x " + a + "\n", "01 " + a + "\n", "00 " + a + "\n", "-1 " + a + "\n", "+1 " + a + "\n", "1  " + a + "\n", "1\t" + a + "\n", " 1 " + a + "\n", "1 " + a + " \n", "1 " + a + "\r\n",
		"1 " + strings.ToUpper(a) + "\n", "1 " + a[1:] + "\n", "1 " + a + "a\n", "1 " + a + "\n2 " + a, a + " 1\n", "1 " + a + "\x00", "101 " + a + "\n", "1099511627776 " + a + "\n", "1099511627777 " + a + "\n", "99999999999999999999 " + a + "\n", "1," + a + "\n",
	} {
		refuses(t, post(body), api.ErrForm)
	}
	for _, n := range []int{99, 100, 101, 102, 1000} {
		body := ""
		var l []api.Pick
		for i := range n {
			body += strconv.Itoa(i%100+1) + " " + a + "\n"
			l = append(l, api.Pick{N: i%100 + 1, Sum: a})
		}
		if n > api.MaxPart {
			refuses(t, post(body), api.ErrForm)
		} else {
			routes(t, post(body), join(l...))
		}
	}
}

// Promise 20.1: a token that may be, one that may not, two of them; to which commands it goes.
func TestToken(t *testing.T) {
	long := rep("t", 64)
	for _, s := range samples() {
		for _, token := range []string{"t", "!~", long} {
			w := s.w
			if w.Kind == api.WantCmd && w.Cmd.Kind != api.CmdExpire {
				w.Cmd.Token = token
			}
			routes(t, withToken(s.r, token), w)
			routes(t, withToken(s.r, token, "other"), w)
			routes(t, withToken(s.r, token, "a b"), w) // the first one counts
			r := withToken(s.r, token)
			r.Heads = append([]api.Pair{{Name: "a", Value: "b"}, {Name: "X-TOKEN", Value: ""}}, r.Heads...)
			routes(t, r, w)
		}
		for _, token := range []string{"", " ", "a b", "t\t", "\x00", "\x7f", "ä", long + "t"} {
			refuses(t, withToken(s.r, token), api.ErrForm)
			refuses(t, withToken(s.r, token, "t"), api.ErrForm)
		}
	}
	for c := range 256 {
		r := withToken(req("PUT", "/one"), "a"+one(c)+"b")
		if c >= 33 && c <= 126 {
			routes(t, r, cmd(api.Cmd{Kind: api.CmdMake, Bucket: "one", Token: "a" + one(c) + "b"}))
		} else {
			refuses(t, r, api.ErrForm)
		}
	}
}

// Promise 20.1: which of two errors is told.
func TestWhichError(t *testing.T) {
	many := rep("a&", 16) + "a"
	for _, c := range []struct {
		r    api.Req
		want api.Errno
	}{
		{api.Req{Method: "BREW", Path: "/%", Query: many}, api.ErrForm}, {api.Req{Method: "BREW", Path: "/x", Query: many}, api.ErrForm}, {api.Req{Method: "BREW", Path: "/one/%00", Query: many}, api.ErrForm},
		{api.Req{Method: "BREW", Path: "/_nodes", Query: many}, api.ErrNone}, {api.Req{Method: "PUT", Path: "/_expire/x", Query: "%"}, api.ErrNone},
		{api.Req{Method: "BREW", Path: "/_nodes/9", Query: many}, api.ErrWay}, {api.Req{Method: "POST", Path: "/one", Query: many}, api.ErrWay}, {api.Req{Method: "HEAD", Path: "/", Query: "%", Body: "x"}, api.ErrWay},
		{api.Req{Method: "PUT", Path: "/_nodes/9", Query: many}, api.ErrMany}, {api.Req{Method: "GET", Path: "/one", Query: many, Body: "x"}, api.ErrMany}, {api.Req{Method: "GET", Path: "/one/k", Query: rep("version=0&", 16) + "x"}, api.ErrMany}, {withToken(api.Req{Method: "PUT", Path: "/one", Query: many}, ""), api.ErrMany},
		{api.Req{Method: "POST", Path: "/one/k", Query: many}, api.ErrMany}, {api.Req{Method: "POST", Path: "/_expire", Query: many}, api.ErrMany},
		{api.Req{Method: "GET", Path: "/one", Query: "%"}, api.ErrForm}, {api.Req{Method: "GET", Path: "/one", Query: "=a"}, api.ErrForm}, {api.Req{Method: "GET", Path: "/one", Query: "prefix=a&"}, api.ErrForm}, {api.Req{Method: "GET", Path: "/one", Query: "prefix=a b"}, api.ErrForm},
		{api.Req{Method: "GET", Path: "/one", Query: rep("a&", 15) + "a"}, api.ErrForm}, {api.Req{}, api.ErrForm},
	} {
		refuses(t, c.r, c.want)
	}
}
