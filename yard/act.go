package yard

import (
	"math"

	"stowage/api"
)

// mostTicks is how many ticks pass by one act, at most.
const mostTicks = 1000

// The draw of a tick: so many times the node's number, and the ticks counted, modulo the spread.
const (
	drawStep   = 3
	drawSpread = 11
)

// Do does an act.
func (y *Yard) Do(a api.Act) api.Errno {
	if a.Kind == api.ActTick {
		return y.pass(a.N)
	}
	h := y.host(a.Node)
	if h == nil {
		return api.ErrArg
	}
	switch a.Kind {
	case api.ActBytes, api.ActShut, api.ActDown:
		if !h.isUp() {
			return api.ErrDown
		}
		return y.doUp(h, a)
	case api.ActUp:
		return h.rise()
	case api.ActCut:
		h.cut = a.N == 1
	case api.ActRoom:
		h.room(a.N)
	default:
		return api.ErrArg
	}
	return api.OK
}

// doUp does an act at a node that is up.
func (y *Yard) doUp(h *host, a api.Act) api.Errno {
	switch a.Kind {
	case api.ActShut:
		return h.Shut(a.Conn)
	case api.ActDown:
		h.fall(a.N, a.M)
		return api.OK
	}
	e := h.Bytes(a.Conn, a.Text)
	if e == api.OK {
		h.settle()
		y.come()
	}
	return e
}

// pass lets ticks pass.
func (y *Yard) pass(ticks int) api.Errno {
	if y == nil || len(y.hosts) == 0 || ticks < 1 || ticks > mostTicks {
		return api.ErrArg
	}
	for range ticks {
		for i := range y.hosts {
			h := &y.hosts[i]
			h.Tick((drawStep*i + y.ticks) % drawSpread)
			h.settle()
		}
		y.come()
		y.ticks++
	}
	return api.OK
}

// rise lets a node be up again.
func (h *host) rise() api.Errno {
	if h.isUp() {
		return api.ErrArg
	}
	h.disk.Up()
	e := h.stand()
	if e != api.OK {
		h.fall(0, 0)
	}
	return e
}

// room bounds what the disk has room for: so many bytes more, or any.
func (h *host) room(more int) {
	used := h.disk.Used()
	if more >= 0 {
		more = used + min(more, math.MaxInt-used)
	}
	h.disk.Room(more)
}
