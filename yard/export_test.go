package yard

import (
	"stowage/api"
	"stowage/disk"
	"stowage/gate"
)

// Disk is a node's disk.
func (y *Yard) Disk(node int) *disk.Disk { return y.hosts[node].disk }

// Gate is a node's gate; none, if the node is down.
func (y *Yard) Gate(node int) *gate.Gate { return y.hosts[node].Gate() }

// Plan lays the falls of a node's disk, which no act can: so many changes from now on.
func (y *Yard) Plan(node int, l ...api.Fall) {
	d := y.Disk(node)
	for i := range l {
		l[i].At += d.Changes()
	}
	d.Plan(l)
}
