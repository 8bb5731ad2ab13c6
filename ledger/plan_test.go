package ledger_test

import (
	"math"
	"strings"
	"testing"

	"chartulary/api"
	"chartulary/disk"
	"chartulary/ledger"
	"chartulary/super"
)

// Promise 18.1: layouts that the definition gives.
func TestPlanOf(t *testing.T) {
	for _, c := range [][4]int{
		{math.MinInt, 0, 0, 0}, {-1, 0, 0, 0}, {0, 0, 0, 0}, {1, 0, 0, 0}, {2, 0, 0, 0},
		{3, 0, 2, 0}, {4, 0, 2, 1}, {9, 0, 2, 3}, {10, 1, 3, 3}, {11, 1, 3, 4}, {17, 1, 3, 7}, {18, 2, 4, 7},
		{60, 7, 9, 25}, {600, 64, 66, 267}, {513, 63, 65, 224}, {514, 64, 66, 224}, {521, 64, 66, 227}, {522, 64, 66, 228},
		{api.MaxSectors, 64, 66, 4063}, {math.MaxInt, 64, 66, (math.MaxInt - 66) / 2},
	} {
		if slots, first, size := ledger.Plan(c[0]); slots != c[1] || first != c[2] || size != c[3] {
			t.Errorf("Plan(%d) = %d, %d, %d, want %v", c[0], slots, first, size, c[1:])
		}
	}
}

// Promise 18.1: the parts follow one another, and leave at most one sector.
func TestPlanOfAll(t *testing.T) {
	for n := 3; n <= api.MaxSectors; n++ {
		slots, first, size := ledger.Plan(n)
		if slots > 64 || slots != 64 && slots != (n-2)/8 || first != 2+slots || size < 0 || n-first-2*size < 0 || n-first-2*size > 1 {
			t.Fatalf("Plan(%d) = %d, %d, %d", n, slots, first, size)
		}
	}
}

// The constants of the chapter.
func TestConstants(t *testing.T) {
	if ledger.Spare != 4 || ledger.Idle != 0 || ledger.Wiped != 1 || ledger.Swept != 2 {
		t.Error(ledger.Spare, ledger.Idle, ledger.Wiped, ledger.Swept)
	}
}

// Promise 18.1.
func TestFormat(t *testing.T) {
	for _, n := range []int{10, 11, 60, 600, api.MaxSectors} {
		d := formatted(t, n)
		s, err := super.Load(d)
		check(t, "Load", err, api.OK)
		same(t, "superblock", s, super.Super{Gen: 1, Boot: 1, Side: 0, Seed: 1})
		same(t, "held sectors", heldFrom(d, 0, n), []int{1})
		same(t, "pending sectors", d.Waiting(), []int(nil))
		// The same disk is not formatted twice, and not changed then.
		image, acts := d.Image(), d.Acts()
		check(t, "Format again", ledger.Format(d), api.ErrThere)
		if d.Image() != image || d.Acts() != acts {
			t.Errorf("Format again has changed the disk of %d sectors", n)
		}
	}
}

// Promise 18.1: a disk that is too small, of whatever contents, or no disk.
func TestFormatOfTooSmall(t *testing.T) {
	for n := 1; n < 10; n++ {
		d := newDisk(t, n)
		check(t, "Format", ledger.Format(d), api.ErrArg)
		same(t, "acts", d.Acts(), 0)
		if n > 2 {
			check(t, "Save", super.Save(newGuard(t, d, 1), super.Super{Gen: 1, Boot: 1, Seed: 1}), api.OK)
			check(t, "Format", ledger.Format(d), api.ErrArg)
		}
		d.Crash(disk.Fall{})
		check(t, "Format without power", ledger.Format(d), api.ErrArg)
	}
	check(t, "Format of nil", ledger.Format(nil), api.ErrArg)
	check(t, "Format of a disk that New did not create", ledger.Format(&disk.Disk{}), api.ErrArg)
}

// Promise 18.1: the errors of the disk.
func TestFormatWithoutPower(t *testing.T) {
	for _, d := range []*disk.Disk{newDisk(t, 60), formatted(t, 60)} {
		d.Crash(disk.Fall{})
		image := d.Image()
		check(t, "Format", ledger.Format(d), api.ErrDown)
		if d.Image() != image {
			t.Error("Format has changed a disk without power")
		}
	}
}

// Promise 18.1: a ledger that is in use is not formatted.
func TestFormatOfLedger(t *testing.T) {
	d, l := fresh(t, 60)
	add(t, l, paperOf("a", 0, "x"))
	check(t, "Format", ledger.Format(d), api.ErrThere)
	checkGet(t, l, "a", "x", "")
	// One superblock is enough.
	check(t, "Write", d.Write(1, zeros), api.OK)
	check(t, "Format", ledger.Format(d), api.ErrThere)
	checkGet(t, restart(t, d), "a", "x", "")
}

// Promises 18.1, 18.7: when the power fails, Format can be called again, unless the disk is formatted.
func TestPowerFailsDuringFormat(t *testing.T) {
	for acts := range 2 {
		for tear := -1; tear < 64; tear++ {
			for keep := range uint64(2) {
				d := newDisk(t, 60)
				d.Arm(acts, disk.Fall{Keep: keep, Tear: tear})
				check(t, "Format", ledger.Format(d), api.ErrDown)
				d.Start()
				want := api.OK
				if acts == 1 && keep == 1 {
					want = api.ErrThere
				}
				check(t, "Format again", ledger.Format(d), want)
				s, err := super.Load(d)
				same(t, "superblock", s, super.Super{Gen: 1, Boot: 1, Seed: 1})
				check(t, "Load", err, api.OK)
				same(t, "papers", open(t, d).State().Len(), 0)
			}
		}
	}
}

// A disk that was something else before: nothing of it is taken for a ledger's.
func TestFormatOfUsed(t *testing.T) {
	d, l := fresh(t, 61)
	add(t, l, paperOf("a", 0, "x"), paperOf("b", 1, "y"))
	check(t, "Write", d.Write(60, strings.Repeat("r", 64)), api.OK)
	check(t, "Write", d.Write(59, strings.Repeat("r", 64)), api.OK)
	for i := range 2 {
		check(t, "Write", d.Write(i, strings.Repeat("s", 64)), api.OK)
	}
	fails(t, d, api.ErrNone)
	check(t, "Format", ledger.Format(d), api.OK)
	same(t, "held sectors", heldFrom(d, 0, 61), []int{1})
	l = open(t, d)
	same(t, "papers", l.State().Len(), 0)
	same(t, "held sectors", heldFrom(d, 0, 61), []int{0, 1})
}

// A disk that was something else before: when the power fails while it is wiped, Format can be called again.
func TestPowerFailsDuringFormatOfUsed(t *testing.T) {
	for acts := 0; ; acts++ {
		d := newDisk(t, 60)
		for _, i := range []int{0, 1, 5, 9, 30, 59} {
			check(t, "Write", d.Write(i, strings.Repeat("s", 64)), api.OK)
		}
		check(t, "Flush", d.Flush(), api.OK)
		d.Arm(acts, disk.Fall{Keep: 0x5a, Tear: 2*64 + 9})
		err := ledger.Format(d)
		d.Calm()
		if err == api.OK {
			return
		}
		check(t, "Format", err, api.ErrDown)
		d.Start()
		if err := ledger.Format(d); err != api.OK && err != api.ErrThere {
			t.Errorf("after %d acts, Format again = %d", acts, err)
		}
		same(t, "papers", open(t, d).State().Len(), 0)
		same(t, "held sectors", heldFrom(d, 0, 60), []int{0, 1})
	}
}
