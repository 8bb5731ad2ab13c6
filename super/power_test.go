package super_test

import (
	"math/rand/v2"
	"strings"
	"testing"

	"chartulary/api"
	"chartulary/disk"
	"chartulary/guard"
	"chartulary/super"
)

// falls are all power losses of a disk with two pending sectors, a sector of which is torn after every byte.
func falls() []disk.Fall {
	var l []disk.Fall
	for keep := range uint64(4) {
		for tear := -1; tear < 130; tear++ {
			l = append(l, disk.Fall{Keep: keep, Tear: tear})
		}
	}
	return l
}

// savedUntil is a disk on which the superblocks up to Gen gen were saved, each by a start of its own, and the last of them.
func savedUntil(t *testing.T, gen int) (*disk.Disk, super.Super) {
	t.Helper()
	d, s := newDisk(t, 3), of(1, 1, 0, 1)
	checkSave(t, newGuard(t, d, 1), s, api.OK)
	for s.Gen < gen {
		s = super.Next(s, s.Gen%3 == 0)
		s.Boot++
		checkSave(t, newGuard(t, d, s.Boot), s, api.OK)
	}
	return d, s
}

// Promise 11.3: at each act of the Save, with every fall, over sectors that were never written and over those that were; another sector that is pending falls as well. It is tried again from there.
func TestPowerFailsDuringSave(t *testing.T) {
	for gen := 1; gen <= 5; gen++ {
		for _, turn := range []bool{false, true} {
			for acts := range 2 {
				for _, f := range falls() {
					d, last := savedUntil(t, gen)
					next := super.Next(last, turn)
					next.Boot++
					g := newGuard(t, d, next.Boot)
					g.Put(2, "other")
					d.Arm(acts, f)
					checkSave(t, g, next, api.ErrDown)
					check(t, "Start", d.Start(), api.OK)
					want := last
					if acts == 1 && (f.Keep&1 == 1 || durable(d, next)) {
						want = next
					}
					checkLoad(t, d, want, api.OK)

					again := super.Next(want, !turn)
					again.Boot += 2
					checkSave(t, newGuard(t, d, again.Boot), again, api.OK)
					checkLoad(t, d, again, api.OK)
				}
			}
		}
	}
}

// durable tells whether a superblock, saved as the second write of its start, is durable whole; so is a torn one where the rest of the sector was already the same.
func durable(d *disk.Disk, s super.Super) bool {
	data, stamp := bytesOf(s), guard.Eight(s.Boot<<32+2)
	whole := stamp + string([]byte{byte(len(data))}) + data + strings.Repeat("\x00", 47-len(data)) + stamp
	at := s.Gen % 2 * 64
	return d.Image()[at:at+64] == whole
}

// Promise 11.3: a Save into a sector that an earlier power loss has torn, torn again.
func TestPowerFailsTwice(t *testing.T) {
	for gen := 1; gen <= 4; gen++ {
		for tear := range 64 {
			for again := range 64 {
				d, last := savedUntil(t, gen)
				for k, at := range []int{tear, again} {
					next := super.Next(last, k == 1)
					next.Boot += 1 + k
					d.Arm(1, disk.Fall{Tear: at})
					checkSave(t, newGuard(t, d, 100+k), next, api.ErrDown)
					check(t, "Start", d.Start(), api.OK)
					s, e := super.Load(d)
					if e != api.OK || s != last && s != next {
						t.Fatalf("Load = %+v, %v, want %+v or %+v", s, e, last, next)
					}
					last = s
				}
			}
		}
	}
}

// Promises 11.1 and 11.3: many starts, each of which saves until the power fails.
func TestManyStarts(t *testing.T) {
	for seed := range uint64(400) {
		r := rand.New(rand.NewPCG(11, seed))
		d, last := newDisk(t, 2+r.IntN(3)), of(1, 1, 0, 1)
		checkSave(t, newGuard(t, d, 1), last, api.OK)
		for boot := 2; boot < 30; boot++ {
			g := newGuard(t, d, boot)
			d.Arm(r.IntN(12), disk.Fall{Keep: r.Uint64(), Tear: r.IntN(300) - 100})
			next, e := last, api.OK
			for e == api.OK {
				last = next
				next = super.Next(last, r.IntN(3) == 0)
				next.Boot = boot
				e = super.Save(g, next)
			}
			check(t, "the last Save", e, api.ErrDown)
			check(t, "Start", d.Start(), api.OK)
			s, e := super.Load(d)
			if e != api.OK || s != last && s != next {
				t.Fatalf("seed %d, boot %d: Load = %+v, %v, want %+v or %+v", seed, boot, s, e, last, next)
			}
			last = s
		}
	}
}
