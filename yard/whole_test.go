package yard_test

import (
	"strings"
	"testing"

	"stowage/api"
)

// Example 1 of the chapter.
func TestExample(t *testing.T) {
	s := newScene(t, 3)
	s.does(tick(30))
	s.leads(0)
	s.asks(0, "PUT /one HTTP/1.1\r\n\r\n", "HTTP/1.1 200 Status\r\ncontent-length: 0\r\n\r\n")
}

// The ten examples of the whole.
func TestExamples(t *testing.T) {
	s := led(t, 3)
	hi, ho := "etag: "+sumOf("hi"), "etag: "+sumOf("ho")
	s.asks(0, req("PUT", "/one/k", "hi"), says(200, "", "", "x-version: 3", hi))
	s.asks(0, req("GET", "/one/k"), says(200, "", "hi", "x-version: 3", hi))
	s.asks(0, req("HEAD", "/one/k"), says(200, "", "", "x-version: 3", hi))
	s.asks(1, req("GET", "/one/k"), wrong(307, "", api.ErrLeader, "x-leader: 0"))
	s.asks(0, req("PUT", "/one/k", "ho"), says(200, "", "", "x-version: 4", ho))
	s.asks(0, req("GET", "/one/k?version=3"), says(200, "", "hi", "x-version: 3", hi))
	s.asks(0, req("DELETE", "/one/k"), says(200, "", "", "x-version: 5"))
	s.asks(0, req("GET", "/one/k"), wrong(404, "", api.ErrMark))
	s.asks(0, req("GET", "/one"), says(200, "", ""))
	first := rep("a", 5000)
	s.asks(0, req("POST", "/one/big?uploads"), says(200, "", "", "x-version: 6"))
	s.asks(0, req("PUT", "/one/big?upload=6&part=1", first), says(200, "", "", "x-version: 1", "etag: "+sumOf(first)))
	s.asks(0, req("PUT", "/one/big?upload=6&part=2", "end"), says(200, "", "", "x-version: 2", "etag: "+sumOf("end")))
	s.does(send(0, 0, req("POST", "/one/big?upload=6", "1 "+sumOf(first)+"\n2 "+sumOf("end")+"\n")))
	if out := s.Out(0, 0); !strings.HasPrefix(out, "HTTP/1.1 200 Status\r\ncontent-length: 0\r\nx-version: 9\r\netag: ") {
		t.Fatalf("what is put together: %q", out)
	}
	s.does(send(0, 0, req("GET", "/one/big")))
	if out := s.Out(0, 0); !strings.HasSuffix(out, "\r\n\r\n"+first+"end") {
		t.Fatalf("what was put together: %q", short(out))
	}
	once := says(200, "", "", "x-version: 10", "etag: "+sumOf("t"))
	s.asks(0, req("PUT", "/one/t", "x-token: a", "t"), once)
	s.asks(0, req("PUT", "/one/t", "x-token: a", "t"), once)
	s.asks(0, req("PUT", "/one/t", "x-token: a", "other"), wrong(409, "", api.ErrClash))

	s.does(down(0), tick(60))
	k := s.Leader()
	if k < 1 {
		t.Fatalf("Leader: %d", k)
	}
	s.asks(k, req("GET", "/one/k?version=3"), says(200, "", "hi", "x-version: 3", hi))
	s.asks(k, req("PUT", "/one/t", "x-token: a", "t"), once)

	s.does(down(3-k), send(k, 0, req("PUT", "/two")), tick(59))
	s.goes(k, 0, "")
	s.does(tick(1))
	s.goes(k, 0, wrong(503, "", api.ErrBusy))
	s.asks(k, "BREW / HTTP/1.1\r\n", wrong(501, "last", api.ErrMethod))
	if s.Open(k, 0) {
		t.Errorf("the connection is open")
	}
	s.does(up(0), up(3-k), tick(120))
	s.goesOn("up again", 3)
}

// Leaders fail one behind the other, and come back: nothing that was answered is lost.
func TestLeadersFail(t *testing.T) {
	for _, nodes := range []int{3, 4, 5, 7} {
		s := led(t, nodes)
		k := 0
		for turn := range 8 {
			body := rep("x", 700*turn) + "end"
			s.does(shut(k, 0), send(k, 0, req("PUT", "/one/"+rep("k", turn+1), body)))
			if out := s.Out(k, 0); !strings.HasPrefix(out, "HTTP/1.1 200 ") {
				t.Fatalf("of %d: %q", nodes, short(out))
			}
			s.does(down(k), tick(60))
			old := k
			k = s.Leader()
			if k < 0 || k == old {
				t.Fatalf("of %d: %d leads", nodes, k)
			}
			for i := range turn + 1 {
				s.does(send(k, 1, req("GET", "/one/"+rep("k", i+1))))
				if out := s.Out(k, 1); !strings.HasSuffix(out, "\r\n\r\n"+rep("x", 700*i)+"end") {
					t.Fatalf("of %d: %q", nodes, short(out))
				}
			}
			s.does(up(old), tick(5))
		}
	}
}
