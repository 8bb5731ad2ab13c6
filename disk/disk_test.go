package disk_test

import (
	"math"
	"slices"
	"strings"
	"testing"

	"chartulary/api"
	"chartulary/disk"
)

// newDisk is a disk of n sectors.
func newDisk(t *testing.T, n int) *disk.Disk {
	t.Helper()
	d, e := disk.New(n)
	if e != api.OK || d == nil {
		t.Fatalf("New(%d) = %v, %v", n, d, e)
	}
	return d
}

// full is a sector full of one letter.
func full(c string) string {
	return strings.Repeat(c, api.SectorBytes)
}

// zeros is a sector that was never written.
var zeros = full("\x00")

// check checks how a call ended.
func check(t *testing.T, what string, got, want api.Errno) {
	t.Helper()
	if got != want {
		t.Errorf("%s = %v, want %v", what, got, want)
	}
}

// checkRead checks what a sector contains as it was written last.
func checkRead(t *testing.T, d *disk.Disk, i int, want string) {
	t.Helper()
	if got, e := d.Read(i); got != want || e != api.OK {
		t.Errorf("Read(%d) = %q, %v, want %q", i, got, e, want)
	}
}

// checkWaiting checks which sectors are pending.
func checkWaiting(t *testing.T, d *disk.Disk, want ...int) {
	t.Helper()
	if got := d.Waiting(); !slices.Equal(got, want) {
		t.Errorf("Waiting = %v, want %v", got, want)
	}
}

// checkDurable checks a sector's durable contents, and the act that wrote them.
func checkDurable(t *testing.T, d *disk.Disk, i int, want string, stamp int) {
	t.Helper()
	if got := d.Image()[i*64 : i*64+64]; got != want || d.Stamp(i) != stamp {
		t.Errorf("sector %d of the image = %q, stamp %d, want %q, %d", i, got, d.Stamp(i), want, stamp)
	}
}

// checkCounts checks how many acts succeeded, and how often the power failed.
func checkCounts(t *testing.T, d *disk.Disk, acts, falls int) {
	t.Helper()
	if d.Acts() != acts || d.Falls() != falls {
		t.Errorf("%d acts, %d falls, want %d, %d", d.Acts(), d.Falls(), acts, falls)
	}
}

// Promise 9.1: a new disk.
func TestNew(t *testing.T) {
	for _, n := range []int{1, 2, 3, 64, 600, api.MaxSectors - 1, api.MaxSectors} {
		d := newDisk(t, n)
		if d.Size() != n || !d.Up() || d.Image() != strings.Repeat(zeros, n) {
			t.Errorf("New(%d): Size = %d, Up = %v, %d bytes", n, d.Size(), d.Up(), len(d.Image()))
		}
		for i := range n {
			checkRead(t, d, i, zeros)
			if d.Stamp(i) != 0 {
				t.Errorf("New(%d): Stamp(%d) = %d", n, i, d.Stamp(i))
			}
		}
		checkWaiting(t, d)
		checkCounts(t, d, 0, 0)
	}
	if api.MaxSectors != 8192 || api.SectorBytes != 64 {
		t.Errorf("%d sectors of %d bytes", api.MaxSectors, api.SectorBytes)
	}
}

// Promise 9.1.
func TestNewOfWrongSize(t *testing.T) {
	for _, n := range []int{0, -1, math.MinInt, api.MaxSectors + 1, 1 << 32, math.MaxInt} {
		if d, e := disk.New(n); d != nil || e != api.ErrArg {
			t.Errorf("New(%d) = %v, %v, want nil, ErrArg", n, d, e)
		}
	}
}

// Promise 9.1: what is read is what was written last; only a flush makes it durable.
func TestWriteAndFlush(t *testing.T) {
	d := newDisk(t, 5)
	check(t, "Write 3", d.Write(3, full("a")), api.OK)
	check(t, "Write 0", d.Write(0, full("b")), api.OK)
	check(t, "Write 3 again", d.Write(3, full("c")), api.OK)
	checkRead(t, d, 3, full("c"))
	checkRead(t, d, 0, full("b"))
	checkRead(t, d, 1, zeros)
	checkWaiting(t, d, 0, 3)
	checkDurable(t, d, 3, zeros, 0)
	checkDurable(t, d, 0, zeros, 0)

	check(t, "Flush", d.Flush(), api.OK)
	checkRead(t, d, 3, full("c"))
	checkWaiting(t, d)
	checkDurable(t, d, 3, full("c"), 3)
	checkDurable(t, d, 0, full("b"), 2)
	checkDurable(t, d, 1, zeros, 0)

	check(t, "Write 3 once more", d.Write(3, zeros), api.OK)
	checkRead(t, d, 3, zeros)
	checkDurable(t, d, 3, full("c"), 3)
	checkWaiting(t, d, 3)
	check(t, "Flush", d.Flush(), api.OK)
	checkDurable(t, d, 3, zeros, 5)
	checkCounts(t, d, 6, 0)
}

// Promise 9.1: a sector is pending though it was written as it is, and a flush without pending sectors is one too.
func TestWriteOfTheSame(t *testing.T) {
	d := newDisk(t, 2)
	check(t, "Flush", d.Flush(), api.OK)
	check(t, "Write", d.Write(1, zeros), api.OK)
	checkWaiting(t, d, 1)
	check(t, "Flush", d.Flush(), api.OK)
	checkWaiting(t, d)
	checkDurable(t, d, 1, zeros, 2)
	check(t, "Flush", d.Flush(), api.OK)
	checkDurable(t, d, 1, zeros, 2)
	checkCounts(t, d, 4, 0)
}

// Promise 9.1: every byte of every sector, at the greatest size.
func TestAllBytes(t *testing.T) {
	d := newDisk(t, api.MaxSectors)
	text := func(i int) string {
		b := make([]byte, 64)
		for k := range b {
			b[k] = byte(i*7 + i/256 + k*5)
		}
		return string(b)
	}
	want, all := make([]string, api.MaxSectors), make([]int, api.MaxSectors)
	for i := range want {
		all[i] = i
		// Written backwards, they still wait in increasing order.
		want[api.MaxSectors-1-i] = text(api.MaxSectors - 1 - i)
		check(t, "Write", d.Write(api.MaxSectors-1-i, want[api.MaxSectors-1-i]), api.OK)
	}
	checkWaiting(t, d, all...)
	check(t, "Flush", d.Flush(), api.OK)
	for i := range want {
		checkRead(t, d, i, want[i])
	}
	if d.Image() != strings.Join(want, "") {
		t.Error("the image is not what was written")
	}
	checkCounts(t, d, api.MaxSectors+1, 0)
}

// Promise 9.1: which error comes first; what is rejected changes nothing and is no act.
func TestErrors(t *testing.T) {
	d := newDisk(t, 3)
	outside := []int{3, 4, -1, math.MaxInt, math.MinInt, 1 << 32}
	texts := []string{"", "x", full("x")[:63], full("x") + "x", full("x") + full("x")}
	for _, i := range outside {
		if s, e := d.Read(i); s != "" || e != api.ErrRange {
			t.Errorf("Read(%d) = %q, %v, want ErrRange", i, s, e)
		}
		for _, s := range append(texts, full("x")) {
			check(t, "Write outside", d.Write(i, s), api.ErrRange)
		}
		if d.Stamp(i) != 0 {
			t.Errorf("Stamp(%d) = %d", i, d.Stamp(i))
		}
	}
	for _, s := range texts {
		check(t, "Write of a wrong length", d.Write(1, s), api.ErrArg)
	}
	checkRead(t, d, 1, zeros)
	checkWaiting(t, d)
	checkCounts(t, d, 0, 0)

	check(t, "Crash", d.Crash(disk.Fall{}), api.OK)
	for _, i := range append(outside, 0, 1, 2) {
		if s, e := d.Read(i); s != "" || e != api.ErrDown {
			t.Errorf("Read(%d) without power = %q, %v, want ErrDown", i, s, e)
		}
		for _, s := range append(texts, full("x")) {
			check(t, "Write without power", d.Write(i, s), api.ErrDown)
		}
	}
	check(t, "Flush without power", d.Flush(), api.ErrDown)
	checkWaiting(t, d)
	checkCounts(t, d, 0, 1)
	if d.Size() != 3 || d.Image() != strings.Repeat(zeros, 3) {
		t.Errorf("without power: Size = %d, Image = %q", d.Size(), d.Image())
	}
}

// Rule R3: lists that were answered are the caller's.
func TestWaitingIsNew(t *testing.T) {
	d := newDisk(t, 4)
	d.Write(2, full("x"))
	d.Write(1, full("y"))
	l := d.Waiting()
	l[0], l[1] = 3, 0
	l = append(l, 9)
	checkWaiting(t, d, 1, 2)
	checkWaiting(t, d, 1, 2)
	d.Flush()
	checkWaiting(t, d)
}

// Rule R4: disks have nothing to do with each other.
func TestDisksApart(t *testing.T) {
	d, other := newDisk(t, 2), newDisk(t, 2)
	d.Write(0, full("x"))
	d.Flush()
	d.Write(1, full("y"))
	d.Arm(0, disk.Fall{})
	checkWaiting(t, other)
	check(t, "Flush of the other disk", other.Flush(), api.OK)
	checkDurable(t, other, 0, zeros, 0)
	checkCounts(t, other, 1, 0)
	d.Crash(disk.Fall{Keep: 1, Tear: -1})
	checkRead(t, other, 1, zeros)
	checkCounts(t, other, 1, 0)
	checkCounts(t, d, 3, 1)
}

// Promise 9.4.
func TestNoDisk(t *testing.T) {
	refused, _ := disk.New(0)
	for name, d := range map[string]*disk.Disk{"nil": nil, "zero": {}, "New(0)": refused} {
		for range 2 {
			for _, i := range []int{0, 1, -1, math.MaxInt, math.MinInt} {
				if s, e := d.Read(i); s != "" || e != api.ErrState {
					t.Errorf("%s: Read(%d) = %q, %v", name, i, s, e)
				}
				check(t, name+": Write", d.Write(i, full("x")), api.ErrState)
				check(t, name+": Write of a wrong length", d.Write(i, ""), api.ErrState)
				check(t, name+": Arm", d.Arm(i, disk.Fall{Keep: 1}), api.ErrState)
				if d.Stamp(i) != 0 {
					t.Errorf("%s: Stamp(%d) = %d", name, i, d.Stamp(i))
				}
			}
			check(t, name+": Flush", d.Flush(), api.ErrState)
			check(t, name+": Crash", d.Crash(disk.Fall{Keep: 1, Tear: 3}), api.ErrState)
			d.Calm()
			check(t, name+": Start", d.Start(), api.ErrState)
			if d.Size() != 0 || d.Up() || d.Image() != "" || len(d.Waiting()) != 0 {
				t.Errorf("%s: Size = %d, Up = %v, Image = %q, Waiting = %v", name, d.Size(), d.Up(), d.Image(), d.Waiting())
			}
			checkCounts(t, d, 0, 0)
		}
	}
}
