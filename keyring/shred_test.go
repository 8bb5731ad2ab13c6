package keyring_test

import (
	"math"
	"slices"
	"strings"
	"testing"

	"chartulary/api"
	"chartulary/disk"
)

// Promise 13.3: whatever a slot contains, all its bytes are zero then, durably, with two acts; a free one takes none. The other sectors stay as they are.
func TestShred(t *testing.T) {
	for i, e := range oddErrors {
		d, r := oddRing(t)
		acts, want := d.Acts(), d.Image()
		want = want[:i*64+128] + zeros + want[i*64+192:]
		n := 1
		if e == api.ErrNone {
			n = 0
		}
		for range 3 {
			checkShred(t, r, i, api.OK)
			checkGet(t, r, i, "", api.ErrNone)
			checkShreds(t, r, n)
			checkActs(t, d, acts+2*n)
			if d.Image() != want || len(d.Waiting()) != 0 {
				t.Errorf("after Shred(%d): %q, want %q", i, d.Image(), want)
			}
		}
		for k, ke := range oddErrors[1:] {
			if k+1 != i {
				checkGet(t, r, k+1, "", ke)
			}
		}
	}
}

// Promise 13.3: a key that is shredded leaves no trace on the disk.
func TestShredLeavesNothing(t *testing.T) {
	d := newDisk(t, 5)
	r := newRing(t, newGuard(t, d, 1), 1, 3)
	key := strings.Repeat("secret..", 4)
	checkPut(t, r, 2, key, api.OK)
	if !strings.Contains(d.Image(), key) {
		t.Error("Put has not flushed")
	}
	checkShred(t, r, 2, api.OK)
	if d.Image() != strings.Repeat(zeros, 5) {
		t.Errorf("after Shred: %q", d.Image())
	}
}

// Promise 13.3, rule R2: the errors of Shred in their order; those of a slot come before the power, and the power before a slot that is free.
func TestShredOfWrongArguments(t *testing.T) {
	d, r := oddRing(t)
	was, acts := d.Image(), d.Acts()
	for _, down := range []bool{false, true} {
		for _, i := range append(outside(7), -2, 7) {
			checkShred(t, r, i, api.ErrRange)
		}
		for i := range 7 {
			if down {
				checkShred(t, r, i, api.ErrDown)
			}
		}
		d.Crash(disk.Fall{})
	}
	d.Start()
	checkActs(t, d, acts)
	checkShreds(t, r, 0)
	if d.Image() != was {
		t.Error("a Shred that was refused has written")
	}
	checkShred(t, r, 0, api.OK)
	checkShreds(t, r, 1)
}

// Promise 13.3: what is in used stays, whatever it is, and all else is shredded; numbers that are no slots are ignored. Every set of slots.
func TestKeep(t *testing.T) {
	for set := range 1 << 7 {
		d, r := oddRing(t)
		acts, was, want := d.Acts(), d.Image(), 0
		used := append(outside(7), -2, 9)
		for i, e := range oddErrors {
			switch {
			case set>>i&1 == 1:
				used = append(used, i)
			case e != api.ErrNone:
				want++
			}
		}
		checkKeep(t, r, used, want, api.OK)
		checkShreds(t, r, want)
		checkActs(t, d, acts+2*want)
		for i := range 10 {
			sector := zeros
			if i < 2 || i == 9 || set>>(i-2)&1 == 1 {
				sector = was[i*64 : i*64+64]
			}
			if durable(d, i) != sector {
				t.Errorf("Keep(%v): sector %d = %q, want %q", used, i, durable(d, i), sector)
			}
		}
		checkKeep(t, r, used, 0, api.OK)
		checkActs(t, d, acts+2*want)
		checkShreds(t, r, want)
	}
}

// Promise 13.3: lists that are empty, unsorted, or name a slot twice; they stay as they are (rule R3).
func TestKeepOfLists(t *testing.T) {
	for want, used := range [][]int{{4, 3, 2, 1, 0}, {3, 0, 0, 4, 2, 3}, {2, 4, 0}, {4, 4, 1, 1, 4}, {3, 3, 3, 3, 3, 3, 3}, {}} {
		d := newDisk(t, 5)
		r := newRing(t, newGuard(t, d, 1), 0, 5)
		for i := range 5 {
			checkPut(t, r, i, keyOf(i), api.OK)
		}
		was := slices.Clone(used)
		checkKeep(t, r, used, want, api.OK)
		if !slices.Equal(used, was) {
			t.Errorf("Keep has changed %v to %v", was, used)
		}
		for i := range 5 {
			if slices.Contains(used, i) {
				checkGet(t, r, i, keyOf(i), api.OK)
			} else {
				checkGet(t, r, i, "", api.ErrNone)
			}
		}
		checkKeep(t, r, nil, 5-want, api.OK)
		checkShreds(t, r, 5)
		checkKeep(t, r, nil, 0, api.OK)
	}
	r := newRing(t, newGuard(t, newDisk(t, 64), 1), 0, 64)
	var used []int
	for i := range 64 {
		checkPut(t, r, i, keyOf(i), api.OK)
		if i%5 == 0 {
			used = append(used, i)
		}
	}
	checkKeep(t, r, used, 64-13, api.OK)
	checkFind(t, r, 1, api.OK)
}

// Promise 13.3, rule R2: without power nothing can be shredded; if all slots are used, nothing has to be.
func TestKeepWithoutPower(t *testing.T) {
	d, r := oddRing(t)
	was, acts := d.Image(), d.Acts()
	d.Crash(disk.Fall{})
	for _, used := range [][]int{nil, {0}, {1, 2, 3, 4, 5, 6}, {-1, 7, math.MaxInt}} {
		checkKeep(t, r, used, 0, api.ErrDown)
	}
	checkKeep(t, r, []int{0, 1, 2, 3, 4, 5, 6}, 0, api.OK)
	d.Start()
	checkActs(t, d, acts)
	checkShreds(t, r, 0)
	if d.Image() != was {
		t.Error("a Keep that was refused has written")
	}
	checkKeep(t, r, []int{0}, 5, api.OK)
	checkGet(t, r, 0, keyOf(1), api.OK)
}

// Promise 13.3: the power fails at each act of a Keep. What was shredded before counts, though Keep answers 0; a next Keep completes it.
func TestPowerFailsDuringKeep(t *testing.T) {
	for acts := range 13 {
		for keep := range uint64(2) {
			for tear := -1; tear < 64; tear++ {
				d, r := oddRing(t)
				d.Arm(acts, disk.Fall{Keep: keep, Tear: tear})
				done := acts / 2
				if acts < 10 {
					checkKeep(t, r, []int{3}, 0, api.ErrDown)
				} else {
					done = 5
					checkKeep(t, r, []int{3}, 5, api.OK)
					d.Crash(disk.Fall{})
				}
				checkShreds(t, r, done)
				check(t, "Start", d.Start(), api.OK)
				next := newRing(t, newGuard(t, d, 3), 2, 7)
				left := 5 - done
				if acts%2 == 1 && acts < 10 && next.Free([]int{0, 2, 4, 5, 6}[done]) {
					left--
				}
				checkKeep(t, next, []int{3}, left, api.OK)
				checkShreds(t, next, left)
				for i := range 7 {
					if i == 3 {
						checkGet(t, next, i, "", api.ErrTorn)
					} else {
						checkGet(t, next, i, "", api.ErrNone)
					}
				}
			}
		}
	}
}
