package yard

import (
	"stowage/api"
	"stowage/disk"
	"stowage/extent"
	"stowage/gate"
	"stowage/node"
	"stowage/server"
)

// host is a node with its disk. As long as it is down there is no server, which answers as none does.
type host struct {
	*server.Server
	disk    *disk.Disk
	me      int
	members []int // the first ones
	cut     bool  // it is cut off
}

// newHost is a node that is not up yet, of so many first members.
func newHost(me, nodes int) host {
	h := host{disk: disk.New(), me: me}
	for i := range nodes {
		h.members = append(h.members, i)
	}
	return h
}

// stand lets the node be up, from its disk.
func (h *host) stand() api.Errno {
	n, e := node.Open(h.disk, h.me, h.members, h.me)
	if e != api.OK {
		return e
	}
	x, _, e := extent.Open(h.disk)
	if e != api.OK {
		return e
	}
	g, e := gate.New(n, x)
	if e != api.OK {
		return e
	}
	h.Server, e = server.New(g)
	return e
}

// fall lets the node be down.
func (h *host) fall(keep, torn int) {
	h.disk.Fail(keep, torn)
	h.Server = nil
}

// isUp tells whether the node is up.
func (h *host) isUp() bool {
	return h.Server != nil
}

// settle looks, behind a step, whether the node is to go down. One that could not stand up again for want of room (layer 11) is down though its disk is not: it goes down whole, so that it can stand up when there is room.
func (h *host) settle() {
	if h.Gate().Node().Raft() == nil {
		h.fall(0, 0)
	}
}

// leads is the node's term, and whether it leads in it.
func (h *host) leads() (int, bool) {
	r := h.Gate().Node().Raft()
	term, _ := r.Hard()
	return term, r.Role() == api.Leader
}
