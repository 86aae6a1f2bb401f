// Package whole lays a file so that a loss of power leaves it as it was, or as it is to be, and never something between.
package whole

import (
	"stowage/api"
	"stowage/disk"
)

// Lay lays a file anew: under a spare name first, which it takes from there when all its bytes are sure.
func Lay(d *disk.Disk, spare, name, s string) api.Errno {
	if e := d.Write(spare, s); e != api.OK {
		return e
	}
	if e := d.Sync(); e != api.OK {
		return e
	}
	if e := d.Move(spare, name); e != api.OK {
		return e
	}
	return d.Sync()
}

// Clear takes a spare file away that a loss of power left, if there is one.
func Clear(d *disk.Disk, spare string) api.Errno {
	if e := d.Remove(spare); e != api.ErrNone {
		return e
	}
	return api.OK
}
