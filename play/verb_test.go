package play_test

import (
	"fmt"
	"slices"
	"strings"
	"testing"

	"stowage/api"
	"stowage/digest"
	"stowage/yard"
)

// led are the lines of a yard of three that the node 0 leads, with the bucket one.
func led() []line {
	return slices.Concat([]line{{"new 3", "ok"}, {"tick 30", "ok"}, {"lead", "0"}}, asks(0, "PUT /one HTTP/1.1\r\n\r\n", says(200, "")))
}

// put is a request that puts the key k, and its answer.
func put(node, id int, body string) []line {
	return asks(node, fmt.Sprintf("PUT /one/k HTTP/1.1\r\ncontent-length: %d\r\n\r\n%s", len(body), body), says(200, "", fmt.Sprint("x-version: ", id), "etag: "+digest.Hex(digest.Sum(body))))
}

// get is a request for the key k, and its answer.
func get(node, id int, body string) []line {
	return asks(node, "GET /one/k HTTP/1.1\r\n\r\n", says(200, body, fmt.Sprint("x-version: ", id), "etag: "+digest.Hex(digest.Sum(body))))
}

// Example 1 of the chapter.
func TestExample(t *testing.T) {
	text := "new 1\ntick 20\nlead\nsend 0 0 GET%20/%20HTTP/1.1%0D%0A%0D%0A\nout 0 0"
	tells(t, text, "ok\nok\n0\nok\n=HTTP%2F1.1%20200%20Status%0D%0Acontent-length%3A%200%0D%0A%0D%0A\n")
}

// Promise 25.1: new, and what there is from then on.
func TestNew(t *testing.T) {
	for n := 1; n <= api.MaxNodes; n++ {
		l := []line{{fmt.Sprint("new ", n), "ok"}, {"lead", "none"}}
		for i := range n {
			l = append(l, line{fmt.Sprint("node ", i), "up"}, line{fmt.Sprint("out ", i, " 0"), "="})
		}
		plays(t, append(l, line{fmt.Sprint("node ", n), "down"}, line{fmt.Sprint("shut ", n-1, " 0"), "ok"}, line{fmt.Sprint("shut ", n, " 0"), "error 1"})...)
	}
	for _, n := range []int{0, api.MaxNodes + 1, 9, 100, 999999} {
		plays(t, line{fmt.Sprint("new ", n), "error 1"}, line{"lead", "none"}, line{"node 0", "none"}, line{"new 1", "ok"}, line{"node 0", "up"})
	}
}

// Words: where there is no yard: ahead of any new, and behind one that is wrong, also if there was one.
func TestNone(t *testing.T) {
	for _, ahead := range [][]line{nil, {{"new 0", "error 1"}}, {{"new 8", "error 1"}}, {{"new 3", "ok"}, {"new 8", "error 1"}}, {{"new 3", "ok"}, {"tick 40", "ok"}, {"lead", "0"}, {"new 0", "error 1"}}, {{"new 1", "ok"}, {"new 0", "error 1"}, {"new 0", "error 1"}}, {{"new", "what"}, {"x", "what"}}} {
		l := slices.Clone(ahead)
		for range 2 {
			for _, f := range forms() {
				if f.word == "new" {
					continue
				}
				l = append(l, line{f.line(-1, ""), "none"})
				// What comes ahead of none.
				l = append(l, line{f.line(-1, "") + " ", "what"}, line{f.word + " 1 1 1 1 1", "what"}, line{f.word + "x", "what"})
				for place := range len(f.behind) {
					l = append(l, line{f.line(place, "%"), "what"}, line{f.line(place, "999999"), "none"})
				}
			}
		}
		plays(t, append(l, line{"new 2", "ok"}, line{"lead", "none"}, line{"node 1", "up"}, line{"node 2", "down"})...)
	}
}

// Words: a line that is what changes nothing, also a new.
func TestWhatChangesNothing(t *testing.T) {
	l := led()
	for _, s := range []string{"new", "new 01", "new x", "new 3 3", "new 1 ", " new 1", "NEW 1", "down 0", "down 0 0", "down 0 0 0 0", "down 0 0 x", "down 00 0 0", "tick", "tick 1000 1", "tick 01", "cut 0 1", "join", "room", "room 0 -1", "room 0 0 0", "shut 0", "out 0", "out 0 0 0", "send 0 0", "send 0 0 %", "send 0 0 x x", "lead 0", "node", "node 0 0"} {
		l = append(l, line{s, "what"})
	}
	plays(t, slices.Concat(l, []line{{"lead", "0"}}, put(0, 3, "hi"), get(0, 3, "hi"))...)
}

// Words: a second new is another yard.
func TestNewAnew(t *testing.T) {
	l := slices.Concat(led(), put(0, 3, "hi"), []line{{"down 2 0 0", "ok"}, {"node 2", "down"}, {"cut 1", "ok"}, {"room 0 0", "ok"}, {"send 0 1 x%0D%0A%0D%0A", "ok"}, {"new 3", "ok"}, {"lead", "none"}, {"node 2", "up"}, {"out 0 1", "="}, {"send 0 1 x", "ok"}, {"tick 30", "ok"}, {"lead", "0"}})
	l = slices.Concat(l, asks(0, "GET / HTTP/1.1\r\n\r\n", says(200, "")), asks(0, "PUT /one HTTP/1.1\r\n\r\n", says(200, "")), put(0, 3, "ho"), get(0, 3, "ho"))
	plays(t, l...)
}

// Words: tick.
func TestTick(t *testing.T) {
	plays(t, line{"new 3", "ok"}, line{"tick 0", "error 1"}, line{"lead", "none"}, line{"tick 1", "ok"}, line{"lead", "none"}, line{"tick 1001", "error 1"}, line{"lead", "none"}, line{"tick 1000", "ok"}, line{"lead", "0"}, line{"tick 1", "ok"})
}

// far are numbers of which none is a node's of a yard of three.
var far = []int{3, 6, 7, 8, 1000, 999999}

// Words: nodes that are not there.
func TestNoNode(t *testing.T) {
	l := led()
	for _, n := range far {
		l = append(l, line{fmt.Sprintf("send %d 0 x", n), "error 1"}, line{fmt.Sprintf("shut %d 0", n), "error 1"}, line{fmt.Sprintf("down %d 0 0", n), "error 1"}, line{fmt.Sprintf("up %d", n), "error 1"}, line{fmt.Sprintf("cut %d", n), "error 1"}, line{fmt.Sprintf("join %d", n), "error 1"},
			line{fmt.Sprintf("room %d 5", n), "error 1"}, line{fmt.Sprintf("room %d", n), "error 1"}, line{fmt.Sprintf("out %d 0", n), "="}, line{fmt.Sprintf("node %d", n), "down"})
	}
	plays(t, slices.Concat(l, []line{{"lead", "0"}}, put(0, 3, "hi"))...)
}

// Words: connections that are not there, are shut, or begin anew.
func TestConnections(t *testing.T) {
	l := led()
	for _, c := range []int{api.MaxConns, 9, 1000, 999999} {
		l = append(l, line{fmt.Sprintf("send 0 %d x", c), "error 1"}, line{fmt.Sprintf("shut 0 %d", c), "error 1"}, line{fmt.Sprintf("out 0 %d", c), "="})
	}
	bad := "=" + name(says(400, "error 190\n", "connection: close"))
	for c := range api.MaxConns {
		l = append(l, line{fmt.Sprintf("send 0 %d x%%0D%%0A", c), "ok"}, line{fmt.Sprintf("send 0 %d x", c), "error 194"}, line{fmt.Sprintf("out 1 %d", c), "="}, line{fmt.Sprintf("out 0 %d", c), bad}, line{fmt.Sprintf("out 0 %d", c), "="}, line{fmt.Sprintf("send 0 %d x", c), "error 194"},
			line{fmt.Sprintf("shut 0 %d", c), "ok"}, line{fmt.Sprintf("send 0 %d GET%%20/", c), "ok"}, line{fmt.Sprintf("send 0 %d %%20HTTP/1.1%%0D%%0A%%0D%%0A", c), "ok"}, line{fmt.Sprintf("out 0 %d", c), "=" + name(says(200, "one\n"))})
	}
	// What was not told is forgotten.
	l = append(l, line{"send 0 5 x%0D%0A", "ok"}, line{"shut 0 5", "ok"}, line{"out 0 5", "="})
	plays(t, l...)
}

// Words: down, up and node.
func TestDown(t *testing.T) {
	l := append(led(), line{"up 1", "error 1"}, line{"down 1 0 0", "ok"}, line{"node 1", "down"}, line{"node 0", "up"}, line{"node 2", "up"}, line{"down 1 0 0", "error 21"}, line{"send 1 0 x", "error 21"}, line{"send 1 99 x", "error 21"}, line{"shut 1 0", "error 21"}, line{"out 1 0", "="}, line{"cut 1", "ok"}, line{"join 1", "ok"}, line{"room 1", "ok"}, line{"up 1", "ok"}, line{"node 1", "up"}, line{"up 1", "error 1"})
	l = slices.Concat(l, put(0, 3, "hi"), []line{{"down 0 999999 999999", "ok"}, {"lead", "none"}, {"tick 60", "ok"}})
	k := last(t, text(l)+"lead")
	if k != "1" && k != "2" {
		t.Fatalf("%s leads", k)
	}
	l = append(l, line{"lead", k})
	l = append(l, get(int(k[0]-'0'), 3, "hi")...)
	plays(t, append(l, line{"down 1 1 0", "ok"}, line{"lead", "none"}, line{"tick 60", "ok"}, line{"lead", "none"}, line{"down 2 0 1", "ok"}, line{"lead", "none"}, line{"tick 100", "ok"}, line{"node 0", "down"}, line{"node 1", "down"}, line{"node 2", "down"}, line{"up 2", "ok"}, line{"up 0", "ok"}, line{"node 1", "down"}, line{"node 2", "up"})...)
}

// Words: cut and join.
func TestCut(t *testing.T) {
	// Nobody but those that are joined can agree.
	l := slices.Concat(led(), []line{{"cut 1", "ok"}}, put(0, 3, "hi"), []line{{"cut 2", "ok"}, {"send 0 0 PUT%20/two%20HTTP/1.1%0D%0A%0D%0A", "ok"}, {"out 0 0", "="}, {"join 1", "ok"}, {"tick 5", "ok"}, {"out 0 0", "=" + name(says(200, ""))}, {"join 2", "ok"}, {"join 2", "ok"}, {"tick 5", "ok"}, {"cut 0", "ok"}, {"cut 0", "ok"}, {"tick 60", "ok"}})
	k := last(t, text(l)+"lead")
	if k != "1" && k != "2" {
		t.Fatalf("%s leads", k)
	}
	plays(t, append(l, line{"lead", k}, line{"join 0", "ok"}, line{"tick 20", "ok"})...)
	if k = last(t, text(l)+"down "+k+" 0 0\ntick 100\nlead"); k != "none" {
		t.Errorf("%s leads, of two of which one is cut off", k)
	}
}

// Words: room for so many bytes more, and for any.
func TestRoom(t *testing.T) {
	full := says(507, "error 22\n")
	big := "PUT /one/k HTTP/1.1\r\ncontent-length: 300\r\n\r\n" + rep("x", 300)
	one := slices.Concat([]line{{"new 1", "ok"}, {"tick 20", "ok"}}, asks(0, "PUT /one HTTP/1.1\r\n\r\n", says(200, "")))
	for _, n := range []int{0, 1, 100} {
		plays(t, slices.Concat(one, []line{{fmt.Sprint("room 0 ", n), "ok"}}, asks(0, big, full), []line{{"room 0", "ok"}, {"tick 40", "ok"}}, put(0, 3, "hi"))...)
		plays(t, slices.Concat(one, []line{{fmt.Sprint("room 0 ", n), "ok"}}, asks(0, big, full), []line{{"room 0 5000", "ok"}, {"tick 40", "ok"}}, put(0, 3, "hi"))...)
	}
	for _, s := range []string{"room 0", "room 0 5000", "room 0 999999"} {
		plays(t, slices.Concat(one, []line{{s, "ok"}}, put(0, 3, "hi"))...)
	}
	// Any, behind so many.
	l := slices.Concat(one, []line{{"room 0 0", "ok"}}, asks(0, big, full), []line{{"room 0", "ok"}, {"tick 40", "ok"}})
	for i := range 8 {
		l = append(l, put(0, 3+i, rep(fmt.Sprint(i), 4000))...)
	}
	plays(t, l...)
}

// Words: room is for just so many bytes: with one less a put that needs them all is refused, by a play as by a yard.
func TestRoomJust(t *testing.T) {
	request := "PUT /one/k HTTP/1.1\r\ncontent-length: 2\r\n\r\nhi"
	ahead := text(asks(0, "PUT /one HTTP/1.1\r\n\r\n", ""))
	least := 0
	for ; ; least++ {
		y, _ := yard.New(1)
		y.Do(api.Act{Kind: api.ActTick, N: 20})
		y.Do(api.Act{Kind: api.ActBytes, Text: "PUT /one HTTP/1.1\r\n\r\n"})
		y.Do(api.Act{Kind: api.ActRoom, N: least})
		y.Do(api.Act{Kind: api.ActBytes, Conn: 1, Text: request})
		if strings.HasPrefix(y.Out(0, 1), "HTTP/1.1 200 ") {
			break
		}
	}
	for _, n := range []int{least - 1, least} {
		told := last(t, "new 1\ntick 20\n"+ahead+fmt.Sprintf("room 0 %d\nsend 0 1 %s\nout 0 1", n, name(request)))
		if strings.HasPrefix(told, "=HTTP%2F1.1%20200%20") != (n == least) {
			t.Errorf("room for %d, %d are needed: %s", n, least, told)
		}
	}
}

// Words: out has any bytes, as a name's text, and tells them once.
func TestOut(t *testing.T) {
	var all []byte
	for c := range 256 {
		all = append(all, byte(c))
	}
	l := slices.Concat(led(), put(0, 3, string(all)), get(0, 3, string(all)), []line{{"out 0 0", "="}, {"out 1 0", "="}, {"send 0 3 GET%20/%20HTTP/1.1%0D%0A%0D%0AGET%20/%20HTTP/1.1%0D%0A%0D%0A", "ok"}, {"out 0 2", "="}, {"out 0 3", "=" + name(says(200, "one\n")+says(200, "one\n"))}, {"out 0 3", "="}})
	plays(t, append(l, asks(1, "GET / HTTP/1.1\r\n\r\n", says(307, "error 80\n", "x-leader: 0"))...)...)
}

// The ten examples of the whole, as far as they are not tested above.
func TestWhole(t *testing.T) {
	hi := "etag: " + digest.Hex(digest.Sum("hi"))
	l := slices.Concat(led(), put(0, 3, "hi"), get(0, 3, "hi"), asks(0, "HEAD /one/k HTTP/1.1\r\n\r\n", says(200, "", "x-version: 3", hi)), put(0, 4, "ho"))
	l = append(l, asks(0, "GET /one/k?version=3 HTTP/1.1\r\n\r\n", says(200, "hi", "x-version: 3", hi))...)
	l = slices.Concat(l, asks(0, "DELETE /one/k HTTP/1.1\r\n\r\n", says(200, "", "x-version: 5")), asks(0, "GET /one/k HTTP/1.1\r\n\r\n", says(404, "error 130\n")), asks(0, "GET /one HTTP/1.1\r\n\r\n", says(200, "")))
	l = append(l, line{"down 1 0 0", "ok"}, line{"down 2 0 0", "ok"}, line{"send 0 0 " + name("PUT /two HTTP/1.1\r\n\r\n"), "ok"}, line{"tick 59", "ok"}, line{"out 0 0", "="}, line{"tick 1", "ok"}, line{"out 0 0", "=" + name(says(503, "error 81\n"))})
	plays(t, append(l, asks(0, "BREW / HTTP/1.1\r\n\r\n", says(501, "error 193\n", "connection: close"))...)...)
}
