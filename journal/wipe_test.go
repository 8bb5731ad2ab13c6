package journal_test

import (
	"math"
	"slices"
	"strings"
	"testing"

	"chartulary/api"
	"chartulary/disk"
	"chartulary/guard"
	"chartulary/journal"
)

// checkWipe checks what Wipe answers.
func checkWipe(t *testing.T, g *guard.Guard, base, size, want int, e api.Errno) {
	t.Helper()
	if n, ge := journal.Wipe(g, base, size); n != want || ge != e {
		t.Errorf("Wipe(.., %d, %d) = %d, %v, want %d, %v", base, size, n, ge, want, e)
	}
}

// dirtyDisk is a disk of 8 sectors, of which 0, 2, 3, 5 and 7 contain bytes: guarded ones, torn ones, and ones that differ from zero at one end only.
func dirtyDisk(t *testing.T) (*disk.Disk, *guard.Guard) {
	t.Helper()
	d := newDisk(t, 8)
	g := newGuard(t, d, 1)
	g.Put(0, "zero")
	g.Put(2, "")
	d.Write(3, "\x01"+strings.Repeat("\x00", 63))
	d.Write(5, strings.Repeat("\x00", 63)+"\x01")
	d.Write(7, strings.Repeat("x", 64))
	d.Flush()
	return d, g
}

// dirty are the sectors of a disk that contain other bytes than zero, durably.
func dirty(d *disk.Disk) []int {
	var l []int
	for i := range d.Size() {
		if d.Image()[i*64:i*64+64] != strings.Repeat("\x00", 64) {
			l = append(l, i)
		}
	}
	return l
}

// Promise 12.3: every range of sectors of a disk; the others stay as they are.
func TestWipe(t *testing.T) {
	for base := range 8 {
		for size := range 9 - base {
			d, g := dirtyDisk(t)
			was := d.Acts()
			in := func(i int) bool { return i >= base && i < base+size }
			n := 0
			for _, i := range dirty(d) {
				if in(i) {
					n++
				}
			}
			want := slices.DeleteFunc(dirty(d), in)
			checkWipe(t, g, base, size, n, api.OK)
			if !slices.Equal(dirty(d), want) || len(d.Waiting()) != 0 {
				t.Errorf("Wipe(.., %d, %d): %d are left, %d wait", base, size, dirty(d), d.Waiting())
			}
			acts := 0
			if n > 0 {
				acts = n + 1
			}
			checkActs(t, d, was+acts)
			checkWipe(t, g, base, size, 0, api.OK)
			checkActs(t, d, was+acts)
		}
	}
}

// Promise 12.3: what is pending counts as it was written last.
func TestWipeOfPendingSectors(t *testing.T) {
	d := newDisk(t, 4)
	g := newGuard(t, d, 1)
	g.Put(1, "a")
	g.Put(3, "b")
	checkWipe(t, g, 0, 3, 1, api.OK)
	if !slices.Equal(dirty(d), []int{3}) || len(d.Waiting()) != 0 {
		t.Errorf("%d are left, %d wait", dirty(d), d.Waiting())
	}
	g.Erase(3)
	checkActs(t, d, 5)
	checkWipe(t, g, 0, 4, 0, api.OK)
	checkActs(t, d, 5)
}

// Promise 12.3: a size below 1 names no sectors, wherever they would be, and whatever the guard.
func TestWipeOfNothing(t *testing.T) {
	d, g := dirtyDisk(t)
	was := d.Acts()
	none := func() {
		t.Helper()
		for _, base := range []int{0, 1, 7, 8, 9, -1, math.MinInt, math.MaxInt} {
			for _, size := range []int{0, -1, -8, math.MinInt} {
				checkWipe(t, g, base, size, 0, api.OK)
				checkWipe(t, nil, base, size, 0, api.OK)
				checkWipe(t, &guard.Guard{}, base, size, 0, api.OK)
			}
		}
	}
	none()
	d.Crash(disk.Fall{})
	none()
	checkActs(t, d, was)
}

// Promise 12.3, rule R2: what is refused has changed nothing, though some of the sectors are there.
func TestWipeErrors(t *testing.T) {
	d, g := dirtyDisk(t)
	was, all := d.Acts(), dirty(d)
	outside := [][2]int{{0, 9}, {7, 2}, {8, 1}, {9, 1}, {0, math.MaxInt}, {-1, 1}, {-1, 9}, {-9, 20}, {math.MinInt, 1}, {math.MinInt, math.MaxInt}, {math.MaxInt, 1}, {math.MaxInt, math.MaxInt}}
	for _, out := range outside {
		checkWipe(t, g, out[0], out[1], 0, api.ErrRange)
	}
	checkActs(t, d, was)
	if !slices.Equal(dirty(d), all) || len(d.Waiting()) != 0 {
		t.Errorf("%d are left, %d wait", dirty(d), d.Waiting())
	}
	for _, g := range []*guard.Guard{nil, {}} {
		checkWipe(t, g, 0, 1, 0, api.ErrState)
		checkWipe(t, g, -1, 20, 0, api.ErrState)
	}
	d.Crash(disk.Fall{})
	for _, out := range append(outside, [2]int{0, 8}, [2]int{1, 1}) {
		checkWipe(t, g, out[0], out[1], 0, api.ErrDown)
	}
	d.Start()
	checkWipe(t, g, 0, 8, 5, api.OK)
}

// Promise 12.3: the power fails at each act; then it is wiped again.
func TestPowerFailsDuringWipe(t *testing.T) {
	for acts := range 6 {
		for keep := range uint64(32) {
			for tear := -1; tear < 64*6; tear += 7 {
				d, g := dirtyDisk(t)
				d.Arm(acts, disk.Fall{Keep: keep, Tear: tear})
				checkWipe(t, g, 0, 8, 0, api.ErrDown)
				d.Start()
				left := len(dirty(d))
				checkWipe(t, newGuard(t, d, 2), 0, 8, left, api.OK)
				if len(dirty(d)) != 0 {
					t.Errorf("%d acts, %b, %d: %d are left", acts, keep, tear, dirty(d))
				}
			}
		}
	}
}

// Promises 12.1 and 12.3: a side that was wiped is empty with every seed.
func TestOpenAfterWipe(t *testing.T) {
	d, j := newJournal(t, 12)
	checkAppend(t, j, "one", of(100))
	check(t, "Flush", j.Flush(), api.OK)
	g := newGuard(t, d, 2)
	checkWipe(t, g, 3, 11, 3, api.OK)
	checkRecords(t, open(t, g, 2, 12, 9), 12, 1, []string{"one"})
	checkWipe(t, g, 2, 12, 1, api.OK)
	for _, seed := range []int{1, 9} {
		j = open(t, g, 2, 12, seed)
		checkRecords(t, j, 12, 0, nil)
	}
	checkAppend(t, j, "one")
	checkRecords(t, j, 12, 0, []string{"one"})
}
