package keyring_test

import (
	"math/rand/v2"
	"slices"
	"testing"

	"chartulary/api"
	"chartulary/disk"
	"chartulary/guard"
	"chartulary/keyring"
)

// checkLeft checks that a slot is what an operation in progress may leave: the key, no key, or torn.
func checkLeft(t *testing.T, r *keyring.Ring, i int, key string) {
	t.Helper()
	got, e := r.Get(i)
	whole := got == key && e == api.OK
	none := got == "" && (e == api.ErrNone || e == api.ErrTorn)
	if !whole && !none {
		t.Errorf("Get(%d) = %q, %v, want %q, or none", i, got, e, key)
	}
}

// twoPending are all power losses of a disk with two pending sectors, one of which is torn after each byte.
func twoPending() []disk.Fall {
	var l []disk.Fall
	for keep := range uint64(4) {
		for tear := -1; tear < 128; tear++ {
			l = append(l, disk.Fall{Keep: keep, Tear: tear})
		}
	}
	return l
}

// stored is a ring of 4 slots in the sectors from 1 on, in which 0 and 2 have keys and 1 was shredded; so many sectors were written before them, so that a stamp can end with a zero byte.
func stored(t *testing.T, boot, before int) (*disk.Disk, *keyring.Ring) {
	t.Helper()
	d := newDisk(t, 6)
	g := newGuard(t, d, boot)
	for range before {
		g.Put(5, "other")
	}
	r := newRing(t, g, 1, 4)
	for i := range 3 {
		checkPut(t, r, i, keyOf(i+1), api.OK)
	}
	checkShred(t, r, 1, api.OK)
	return d, r
}

// checkOthers checks the slots 0 to 2 of a ring that stored made, without one of them.
func checkOthers(t *testing.T, r *keyring.Ring, but int) {
	t.Helper()
	for i := range 3 {
		switch {
		case i == but:
		case i == 1:
			checkGet(t, r, i, "", api.ErrNone)
		default:
			checkGet(t, r, i, keyOf(i+1), api.OK)
		}
	}
}

// Promise 13.5: at each act of a Put, with every fall, while another sector is pending: the key is there, or it is not; afterwards the slot can be shredded and used.
func TestPowerFailsDuringPut(t *testing.T) {
	for _, boot := range []int{1, 1 << 24, guard.MaxBoot - 1} {
		for _, before := range []int{0, 252} {
			for acts := range 2 {
				for _, f := range twoPending() {
					d, r := stored(t, boot, before)
					d.Write(0, keyOf(1)+keyOf(2))
					d.Arm(acts, f)
					checkPut(t, r, 3, keyOf(4), api.ErrDown)
					checkGet(t, r, 3, "", api.ErrDown)
					d.Start()
					r = newRing(t, newGuard(t, d, boot+1), 1, 4)
					checkOthers(t, r, 3)
					checkLeft(t, r, 3, keyOf(4))
					if acts == 0 {
						checkGet(t, r, 3, "", api.ErrNone)
					} else if f.Keep&2 == 2 {
						checkGet(t, r, 3, keyOf(4), api.OK)
					}
					checkShred(t, r, 3, api.OK)
					checkPut(t, r, 3, keyOf(5), api.OK)
					d.Crash(disk.Fall{})
					d.Start()
					checkGet(t, r, 3, keyOf(5), api.OK)
				}
			}
		}
	}
}

// Promise 13.5: at each act of a Shred, with every fall, while another sector is pending: the key is there unchanged, or it is not; the same ring can complete it.
func TestPowerFailsDuringShred(t *testing.T) {
	for _, boot := range []int{1, 1 << 24, guard.MaxBoot - 1} {
		for _, before := range []int{0, 253} {
			for acts := range 2 {
				for _, f := range twoPending() {
					d, r := stored(t, boot, before)
					d.Write(0, keyOf(1)+keyOf(2))
					d.Arm(acts, f)
					checkShred(t, r, 2, api.ErrDown)
					checkShreds(t, r, 1)
					d.Start()
					checkOthers(t, r, 2)
					checkLeft(t, r, 2, keyOf(3))
					if acts == 0 || f.Keep&2 == 0 && f.Tear < 64 {
						checkGet(t, r, 2, keyOf(3), api.OK)
					} else if f.Keep&2 == 2 {
						checkGet(t, r, 2, "", api.ErrNone)
					}
					n := 2
					if r.Free(2) {
						n = 1
					}
					checkShred(t, r, 2, api.OK)
					checkShreds(t, r, n)
					d.Crash(disk.Fall{})
					d.Start()
					checkGet(t, r, 2, "", api.ErrNone)
				}
			}
		}
	}
}

// slot is what a slot may have: a key, or none, or, if a power loss left it so, either, or a part of it.
type slot struct {
	key   string // empty: none
	loose bool
}

// Promises 13.1 to 13.3, 13.5: rings of many starts, held against a list of keys, each until the power fails.
func TestManyStarts(t *testing.T) {
	for seed := range uint64(400) {
		r := rand.New(rand.NewPCG(13, seed))
		slots := 1 + r.IntN(12)
		if seed%20 == 0 {
			slots = 64
		}
		d := newDisk(t, slots+5)
		want := make([]slot, slots)
		for boot := 1; boot < 20; boot++ {
			g := newGuard(t, d, boot)
			ring := newRing(t, g, 3, slots)
			checkSlots(t, ring, want)
			if t.Failed() {
				t.Fatalf("seed %d, boot %d", seed, boot)
			}
			d.Arm(r.IntN(40), disk.Fall{Keep: r.Uint64(), Tear: r.IntN(64*6) - 64})
			live(t, r, g, ring, want)
			check(t, "Start", d.Start(), api.OK)
		}
	}
}

// checkSlots checks the slots of a ring after a start, and finds out what those have that a power loss left loose.
func checkSlots(t *testing.T, r *keyring.Ring, want []slot) {
	t.Helper()
	for i := range want {
		s := &want[i]
		switch {
		case s.loose:
			checkLeft(t, r, i, s.key)
			if r.Free(i) {
				s.key = ""
			}
			if got, e := r.Get(i); e == api.ErrTorn {
				checkPut(t, r, i, keyOf(1), api.ErrThere)
				checkShred(t, r, i, api.OK)
				s.key = got
			}
			s.loose = false
		case s.key == "":
			checkGet(t, r, i, "", api.ErrNone)
		default:
			checkGet(t, r, i, s.key, api.OK)
		}
	}
}

// live uses a ring until the power fails.
func live(t *testing.T, r *rand.Rand, g *guard.Guard, ring *keyring.Ring, want []slot) {
	t.Helper()
	shreds := ring.Shreds()
	for g.Disk().Up() {
		i := r.IntN(len(want))
		switch r.IntN(6) {
		case 0:
			g.Put(r.IntN(3), "other")
		case 1:
			checkFirst(t, ring, want)
		case 2:
			shreds += liveKeep(t, r, ring, want)
		case 3:
			shreds += liveShred(t, ring, i, want)
		default:
			livePut(t, ring, i, keyOf(r.IntN(1000)), want)
		}
		checkShreds(t, ring, shreds)
	}
}

// checkFirst checks what Find answers while the power is on.
func checkFirst(t *testing.T, ring *keyring.Ring, want []slot) {
	t.Helper()
	first := slices.IndexFunc(want, func(s slot) bool { return s.key == "" })
	if first < 0 {
		checkFind(t, ring, 0, api.ErrFull)
		return
	}
	checkFind(t, ring, first, api.OK)
}

// livePut puts a key, and notes what becomes of the slot.
func livePut(t *testing.T, ring *keyring.Ring, i int, key string, want []slot) {
	t.Helper()
	e := ring.Put(i, key)
	switch {
	case want[i].key != "":
		check(t, "Put", e, api.ErrThere)
	case e == api.OK:
		want[i].key = key
		checkGet(t, ring, i, key, api.OK)
	default:
		check(t, "Put", e, api.ErrDown)
		want[i] = slot{key, true}
	}
}

// liveShred shreds a slot, notes what becomes of it, and answers how many slots were shredded.
func liveShred(t *testing.T, ring *keyring.Ring, i int, want []slot) int {
	t.Helper()
	e := ring.Shred(i)
	switch {
	case want[i].key == "":
		check(t, "Shred", e, api.OK)
		return 0
	case e == api.OK:
		want[i].key = ""
		checkGet(t, ring, i, "", api.ErrNone)
		return 1
	default:
		check(t, "Shred", e, api.ErrDown)
		want[i].loose = true
		return 0
	}
}

// liveKeep keeps some slots, notes what becomes of the others, and answers how many were shredded.
func liveKeep(t *testing.T, r *rand.Rand, ring *keyring.Ring, want []slot) int {
	t.Helper()
	var used []int
	for i := range want {
		if r.IntN(3) > 0 {
			used = append(used, i)
		}
	}
	before := ring.Shreds()
	got, e := ring.Keep(used)
	left := ring.Shreds() - before // those that come next were not shredded
	n := 0
	for i := range want {
		switch {
		case slices.Contains(used, i) || want[i].key == "":
		case n < left:
			want[i].key = ""
			n++
		case e == api.ErrDown:
			want[i].loose = true
			if got != 0 {
				t.Errorf("Keep = %d, %v", got, e)
			}
			return n
		default:
			t.Errorf("Keep(%v) = %d, %v: slot %d is left", used, got, e, i)
		}
	}
	if e != api.OK || got != n || left != n {
		t.Errorf("Keep(%v) = %d, %v, want %d", used, got, e, n)
	}
	return n
}
