package yard_test

import (
	"fmt"
	"math"
	"testing"

	"stowage/api"
)

// Words: ActRoom is room for so many bytes more; below 0 for any.
func TestRoom(t *testing.T) {
	for _, n := range []int{0, 1, 20, 500, 5000} {
		for _, again := range []int{-1, math.MinInt, math.MaxInt, 1 << 20} {
			s := led(t, 1)
			used := s.Disk(0).Used()
			s.does(room(0, n))
			puts := 0
			for s.Out(0, 0); ; puts++ {
				s.does(send(0, 0, req("PUT", fmt.Sprint("/one/", puts), fmt.Sprint("body ", puts))))
				if s.Disk(0).Used() > used+n {
					t.Fatalf("room for %d: %d bytes more", n, s.Disk(0).Used()-used)
				}
				if out := s.Out(0, 0); out != put(3+puts, fmt.Sprint("body ", puts)) {
					if out != wrong(507, "", api.ErrFull) {
						t.Fatalf("room for %d: %q", n, out)
					}
					break
				}
			}
			// A put takes some 140 bytes.
			if puts < n/200 || puts > n/100 {
				t.Errorf("room for %d: %d objects", n, puts)
			}
			s.does(room(0, again), tick(120))
			s.goesOn("with room again", 1)
		}
	}
}

// Words: it is just so many bytes, also none.
func TestRoomJust(t *testing.T) {
	for _, n := range []int{0, 1, 2, 77} {
		s := led(t, 1)
		d := s.Disk(0)
		s.asks(0, req("PUT", "/one/k", "hi"), put(3, "hi"))
		s.does(room(0, n))
		for _, c := range []struct {
			bytes int
			e     api.Errno
		}{{n + 1, api.ErrFull}, {n, api.OK}, {1, api.ErrFull}} {
			if e := d.Append("x", rep("x", c.bytes)); e != c.e {
				t.Errorf("room for %d: %d bytes: %v", n, c.bytes, e)
			}
		}
		// What goes makes room.
		was := d.Used()
		d.Remove(d.Names()[0])
		if went := was - d.Used(); d.Append("x", rep("x", went+1)) != api.ErrFull || d.Append("x", rep("x", went)) != api.OK {
			t.Errorf("room for %d: the room of %d bytes that went is not there", n, went)
		}
	}
}

// Words: room counts from what is in use then, so that it can be given anew.
func TestRoomAnew(t *testing.T) {
	s := led(t, 1)
	s.does(room(0, 0))
	s.asks(0, req("PUT", "/one/k", "hi"), wrong(507, "", api.ErrFull))
	s.does(room(0, 5000), tick(60))
	s.leads(0)
	s.asks(0, req("PUT", "/one/k", "hi"), put(3, "hi"))
	s.does(room(0, 5000), room(0, 0))
	s.asks(0, req("PUT", "/one/k", "ho"), wrong(507, "", api.ErrFull))
	s.does(room(0, 0), room(0, -1))
	s.does(tick(60))
	s.asks(0, req("GET", "/one/k"), got(3, "hi"))
}

// Words: the room of one node is not that of others: a majority that has room goes on.
func TestRoomOfOne(t *testing.T) {
	s := led(t, 3)
	s.does(room(2, 0))
	s.asks(0, req("PUT", "/one/k", "hi"), put(3, "hi"))
	s.does(room(1, 0), send(0, 0, req("PUT", "/one/k", "ho")), tick(10))
	s.goes(0, 0, "")
	s.does(room(1, -1), room(2, -1), tick(100))
	s.goesOn("with room again", 3)
	s.does(tick(5))
	s.same(0, 1, 2)
}

// lagging is a yard whose node 2 is to get a snapshot, with so many bytes of room.
func lagging(t *testing.T, n int) *scene {
	t.Helper()
	s := led(t, 3)
	s.does(cut(2))
	for i := range 30 {
		s.asks(0, req("PUT", "/one/k"), put(3+i, ""))
	}
	s.does(tick(1), room(2, n), join(2), tick(6))
	return s
}

// Words: a node that can not stand up for want of room stays down, and stands up when there is some. It comes to that where a snapshot is kept for which the log has no room to begin anew.
func TestNoRoomToStandUp(t *testing.T) {
	long := len(lagging(t, -1).Save(0))
	stays := 0
	for n := long; n < long+60; n++ {
		s := lagging(t, n)
		if s.Up(2) {
			continue
		}
		stays++
		if s.Save(2) != "" || s.Open(2, 0) {
			t.Errorf("room for %d: a node that is down has something", n)
		}
		s.refuses(send(2, 0, "x"), api.ErrDown)
		s.refuses(down(2), api.ErrDown)
		for range 2 {
			s.refuses(up(2), api.ErrFull)
			s.isUp(2, false)
			if !s.Disk(2).Down() {
				t.Errorf("room for %d: the disk of a node that stays down is up", n)
			}
			s.does(tick(1))
		}
		s.does(room(2, -1), up(2), tick(6))
		s.same(0, 1, 2)
	}
	if stays == 0 {
		t.Errorf("each node stood up")
	}
}

// Words: a node that is down has nothing in use, so that its room is as many bytes; above 0 or not, it stands up by what it has.
func TestRoomOfOneThatIsDown(t *testing.T) {
	s := led(t, 3)
	s.does(down(2), room(2, 10), up(2), tick(5))
	s.isUp(2, true)
	used := s.Disk(2).Used()
	s.asks(0, req("PUT", "/one/k", "hi"), put(3, "hi"))
	if s.Disk(2).Used() != used {
		t.Errorf("%d bytes more", s.Disk(2).Used()-used)
	}
	s.does(room(2, -1), tick(40))
	s.goesOn("with room again", 3)
}
