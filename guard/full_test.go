package guard

import (
	"strings"
	"testing"

	"chartulary/api"
	"chartulary/disk"
)

// Promise 10.1: the last write that a guard has, and the one after it, which would have a stamp of the next boot. It takes too long to make all writes, so that the count is set here.
func TestFull(t *testing.T) {
	for _, boot := range []int{1, MaxBoot} {
		d, _ := disk.New(2)
		g, _ := New(d, boot)
		g.writes = 1<<32 - 2
		last := (boot+1)*(1<<32) - 1
		if stamp, e := g.Put(1, "last"); stamp != last || e != api.OK {
			t.Errorf("the last Put = %d, %v, want %d", stamp, e, last)
		}
		for range 2 {
			for _, i := range []int{0, 1, 2, -1} {
				if stamp, e := g.Put(i, "more"); stamp != 0 || e != api.ErrFull {
					t.Errorf("Put(%d) = %d, %v, want ErrFull", i, stamp, e)
				}
			}
			if stamp, e := g.Put(0, strings.Repeat("l", 48)); stamp != 0 || e != api.ErrLong {
				t.Errorf("Put of 48 bytes = %d, %v, want ErrLong", stamp, e)
			}
		}
		if s, stamp, e := g.Get(1); s != "last" || stamp != last || e != api.OK {
			t.Errorf("Get = %q, %d, %v", s, stamp, e)
		}
		if d.Acts() != 1 || !g.Blank(0) {
			t.Errorf("%d acts", d.Acts())
		}
		if g.Erase(1) != api.OK || g.Flush() != api.OK || !g.Blank(1) {
			t.Error("Erase or Flush was refused")
		}
		d.Crash(disk.Fall{})
		if stamp, e := g.Put(0, "more"); stamp != 0 || e != api.ErrFull {
			t.Errorf("Put without power = %d, %v, want ErrFull", stamp, e)
		}
	}
}
