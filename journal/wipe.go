package journal

import (
	"chartulary/api"
	"chartulary/guard"
)

// Wipe writes zero bytes to those of size sectors from base on that contain others, makes that durable, and answers how many they were.
func Wipe(g *guard.Guard, base, size int) (int, api.Errno) {
	dirty, e := written(g, base, size)
	if e != api.OK || len(dirty) == 0 {
		return 0, e
	}
	for _, i := range dirty {
		if e := g.Erase(i); e != api.OK {
			return 0, e
		}
	}
	if e := g.Flush(); e != api.OK {
		return 0, e
	}
	return len(dirty), api.OK
}

// written are those of size sectors from base on that contain other bytes than zero. All are read before one is wiped, so that an error leaves them as they are.
func written(g *guard.Guard, base, size int) ([]int, api.Errno) {
	var l []int
	for k := range size {
		switch _, _, e := g.Get(base + k); e {
		case api.ErrNone:
		case api.OK, api.ErrTorn:
			l = append(l, base+k)
		default:
			return nil, e
		}
	}
	return l, api.OK
}
