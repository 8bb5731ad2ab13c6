package guard_test

import (
	"math"
	"strings"
	"testing"

	"chartulary/api"
	"chartulary/disk"
	"chartulary/guard"
)

// newDisk is a disk of n sectors.
func newDisk(t *testing.T, n int) *disk.Disk {
	t.Helper()
	d, e := disk.New(n)
	if e != api.OK {
		t.Fatalf("disk.New(%d): %v", n, e)
	}
	return d
}

// newGuard is a guard of a disk.
func newGuard(t *testing.T, d *disk.Disk, boot int) *guard.Guard {
	t.Helper()
	g, e := guard.New(d, boot)
	if e != api.OK || g == nil {
		t.Fatalf("New(.., %d) = %v, %v", boot, g, e)
	}
	return g
}

// stampOf is the stamp of the n-th sector that a guard writes.
func stampOf(boot, n int) int {
	return boot*4294967296 + n
}

// bytesOf is the guarded sector of up to 47 bytes of data, byte by byte.
func bytesOf(stamp int, data string) string {
	var b [64]byte
	for i, left := 7, uint64(stamp); i >= 0; i, left = i-1, left/256 {
		b[i], b[56+i] = byte(left%256), byte(left%256)
	}
	b[8] = byte(len(data))
	for i := range len(data) {
		b[9+i] = data[i]
	}
	return string(b[:])
}

// zeros is a sector of zero bytes.
const zeros = "\x00\x00\x00\x00\x00\x00\x00\x00\x00\x00\x00\x00\x00\x00\x00\x00\x00\x00\x00\x00\x00\x00\x00\x00\x00\x00\x00\x00\x00\x00\x00\x00" +
	"\x00\x00\x00\x00\x00\x00\x00\x00\x00\x00\x00\x00\x00\x00\x00\x00\x00\x00\x00\x00\x00\x00\x00\x00\x00\x00\x00\x00\x00\x00\x00\x00"

// allData are data of every length from 0 to 47: zero bytes, other bytes, and bytes of all kinds.
func allData() []string {
	var l []string
	mixed := ""
	for n := range 48 {
		l = append(l, strings.Repeat("\x00", n), strings.Repeat("\xff", n), mixed, strings.Repeat("\x00", n/2)+strings.Repeat("z", n-n/2))
		mixed += string([]byte{byte(n*37 + 200)})
	}
	return l
}

// check checks how a call ended.
func check(t *testing.T, what string, got, want api.Errno) {
	t.Helper()
	if got != want {
		t.Errorf("%s = %v, want %v", what, got, want)
	}
}

// checkPut checks what Put answers.
func checkPut(t *testing.T, g *guard.Guard, i int, s string, stamp int, e api.Errno) {
	t.Helper()
	if got, ge := g.Put(i, s); got != stamp || ge != e {
		t.Errorf("Put(%d, %.50q) = %d, %v, want %d, %v", i, s, got, ge, stamp, e)
	}
}

// checkGet checks what Get, Read and Blank answer.
func checkGet(t *testing.T, g *guard.Guard, i int, s string, stamp int, e api.Errno) {
	t.Helper()
	if got, n, ge := g.Get(i); got != s || n != stamp || ge != e {
		t.Errorf("Get(%d) = %q, %d, %v, want %q, %d, %v", i, got, n, ge, s, stamp, e)
	}
	if got := g.Blank(i); got != (e == api.ErrNone) {
		t.Errorf("Blank(%d) = %v, want %v", i, got, !got)
	}
	checkRead(t, g.Disk(), i, s, stamp, e)
}

// checkRead checks what Read answers.
func checkRead(t *testing.T, d *disk.Disk, i int, s string, stamp int, e api.Errno) {
	t.Helper()
	if got, n, ge := guard.Read(d, i); got != s || n != stamp || ge != e {
		t.Errorf("Read(%d) = %q, %d, %v, want %q, %d, %v", i, got, n, ge, s, stamp, e)
	}
}

// checkSector checks the bytes of a sector.
func checkSector(t *testing.T, d *disk.Disk, i int, want string) {
	t.Helper()
	if got, e := d.Read(i); got != want || e != api.OK {
		t.Errorf("sector %d = %q, %v, want %q", i, got, e, want)
	}
}

// checkActs checks how many acts a disk had.
func checkActs(t *testing.T, d *disk.Disk, want int) {
	t.Helper()
	if d.Acts() != want {
		t.Errorf("%d acts, want %d", d.Acts(), want)
	}
}

// The chapter's numbers.
func TestConstants(t *testing.T) {
	if guard.Room != 47 || guard.MaxBoot != 2147483647 {
		t.Errorf("Room = %d, MaxBoot = %d", guard.Room, guard.MaxBoot)
	}
}

// Promise 10.1: a guard of every boot, which does nothing to its disk.
func TestNew(t *testing.T) {
	for _, n := range []int{1, 2, 600, api.MaxSectors} {
		for _, boot := range []int{1, 2, 255, 256, 1 << 30, guard.MaxBoot - 1, guard.MaxBoot} {
			d := newDisk(t, n)
			g := newGuard(t, d, boot)
			if g.Disk() != d {
				t.Errorf("New(.., %d): Disk = %p, want %p", boot, g.Disk(), d)
			}
			checkGet(t, g, 0, "", 0, api.ErrNone)
			checkGet(t, g, n-1, "", 0, api.ErrNone)
			checkActs(t, d, 0)
			checkPut(t, g, n-1, "s", stampOf(boot, 1), api.OK)
			checkPut(t, g, 0, "s", stampOf(boot, 2), api.OK)
		}
	}
}

// Promise 10.1: a guard is made without power too.
func TestNewWithoutPower(t *testing.T) {
	d := newDisk(t, 1)
	d.Crash(disk.Fall{})
	g := newGuard(t, d, 3)
	checkPut(t, g, 0, "s", 0, api.ErrDown)
	d.Start()
	checkPut(t, g, 0, "s", stampOf(3, 1), api.OK)
}

// Promise 10.1.
func TestNewOfWrongArguments(t *testing.T) {
	d := newDisk(t, 1)
	for _, boot := range []int{0, -1, math.MinInt, guard.MaxBoot + 1, 1 << 32, 1<<32 + 1, math.MaxInt} {
		if g, e := guard.New(d, boot); g != nil || e != api.ErrArg {
			t.Errorf("New(.., %d) = %v, %v, want ErrArg", boot, g, e)
		}
	}
	refused, _ := disk.New(0)
	for what, none := range map[string]*disk.Disk{"nil": nil, "zero": {}, "refused": refused} {
		for _, boot := range []int{1, 0, guard.MaxBoot, guard.MaxBoot + 1} {
			if g, e := guard.New(none, boot); g != nil || e != api.ErrArg {
				t.Errorf("New(%s disk, %d) = %v, %v, want ErrArg", what, boot, g, e)
			}
		}
	}
}

// Promises 10.1 and 10.2: data of every length, and how they are laid out.
func TestPut(t *testing.T) {
	for _, boot := range []int{1, 2, 0x01020304, guard.MaxBoot} {
		d := newDisk(t, 3)
		g := newGuard(t, d, boot)
		for n, s := range allData() {
			stamp := stampOf(boot, n+1)
			checkPut(t, g, 1, s, stamp, api.OK)
			checkSector(t, d, 1, bytesOf(stamp, s))
			checkGet(t, g, 1, s, stamp, api.OK)
			checkActs(t, d, n+1)
		}
		checkGet(t, g, 0, "", 0, api.ErrNone)
		checkGet(t, g, 2, "", 0, api.ErrNone)
	}
}

// Promise 10.1: the stamps are counted beyond the first byte.
func TestManyStamps(t *testing.T) {
	d := newDisk(t, 5)
	g := newGuard(t, d, 7)
	for n := 1; n <= 70000; n++ {
		stamp, e := g.Put(n%5, "s")
		if stamp != stampOf(7, n) || e != api.OK {
			t.Fatalf("write %d = %d, %v", n, stamp, e)
		}
	}
	for i := range 5 {
		checkGet(t, g, i, "s", stampOf(7, []int{70000, 69996, 69997, 69998, 69999}[i]), api.OK)
	}
}

// Promise 10.1: what is put is durable after a flush, and no sooner.
func TestFlush(t *testing.T) {
	d := newDisk(t, 2)
	g := newGuard(t, d, 1)
	checkPut(t, g, 1, "a", stampOf(1, 1), api.OK)
	if d.Image() != zeros+zeros || len(d.Waiting()) != 1 {
		t.Error("Put has flushed")
	}
	check(t, "Flush", g.Flush(), api.OK)
	if d.Image() != zeros+bytesOf(stampOf(1, 1), "a") {
		t.Errorf("after Flush: %q", d.Image())
	}
	check(t, "Erase", g.Erase(1), api.OK)
	checkSector(t, d, 1, zeros)
	if d.Image() != zeros+bytesOf(stampOf(1, 1), "a") || len(d.Waiting()) != 1 {
		t.Error("Erase has flushed")
	}
	check(t, "Flush", g.Flush(), api.OK)
	if d.Image() != zeros+zeros {
		t.Errorf("after Erase and Flush: %q", d.Image())
	}
	checkActs(t, d, 4)
	check(t, "Flush of nothing", g.Flush(), api.OK)
	checkActs(t, d, 5)
}

// Promise 10.1: what is erased is blank, whatever it was, and takes no stamp.
func TestErase(t *testing.T) {
	d := newDisk(t, 4)
	g := newGuard(t, d, 2)
	check(t, "Erase of a new sector", g.Erase(0), api.OK)
	checkGet(t, g, 0, "", 0, api.ErrNone)
	checkPut(t, g, 0, "a", stampOf(2, 1), api.OK)
	check(t, "Erase", g.Erase(0), api.OK)
	check(t, "Erase again", g.Erase(0), api.OK)
	checkGet(t, g, 0, "", 0, api.ErrNone)
	checkPut(t, g, 0, "b", stampOf(2, 2), api.OK)
	d.Write(1, strings.Repeat("t", 64))
	checkGet(t, g, 1, "", 0, api.ErrTorn)
	check(t, "Erase of a torn sector", g.Erase(1), api.OK)
	checkGet(t, g, 1, "", 0, api.ErrNone)
	checkGet(t, g, 0, "b", stampOf(2, 2), api.OK)
	checkPut(t, g, 1, "", stampOf(2, 3), api.OK)
	checkGet(t, g, 1, "", stampOf(2, 3), api.OK)
}

// Promise 10.1, rule R2: which error comes first; a Put that is refused takes no stamp and writes nothing.
func TestErrors(t *testing.T) {
	d := newDisk(t, 3)
	g := newGuard(t, d, 5)
	outside := []int{3, 4, -1, math.MaxInt, math.MinInt, 1 << 32}
	refuse := func(inside, out api.Errno) {
		t.Helper()
		for _, n := range []int{48, 49, 64, 303, 1000} {
			for _, i := range append(outside, 0, 1, 2) {
				checkPut(t, g, i, strings.Repeat("l", n), 0, api.ErrLong)
			}
		}
		for _, i := range outside {
			checkPut(t, g, i, strings.Repeat("s", 47), 0, out)
			check(t, "Erase outside", g.Erase(i), out)
			checkGet(t, g, i, "", 0, out)
		}
		if inside == api.OK {
			return
		}
		for i := range 3 {
			checkPut(t, g, i, "s", 0, inside)
			check(t, "Erase", g.Erase(i), inside)
			checkGet(t, g, i, "", 0, inside)
		}
		check(t, "Flush", g.Flush(), inside)
	}
	refuse(api.OK, api.ErrRange)
	checkActs(t, d, 0)
	checkPut(t, g, 2, "a", stampOf(5, 1), api.OK)
	refuse(api.OK, api.ErrRange)
	check(t, "Flush", g.Flush(), api.OK)

	d.Crash(disk.Fall{})
	refuse(api.ErrDown, api.ErrDown)
	d.Start()
	refuse(api.OK, api.ErrRange)
	checkActs(t, d, 2)
	checkGet(t, g, 2, "a", stampOf(5, 1), api.OK)
	checkPut(t, g, 1, "b", stampOf(5, 2), api.OK)
	if d.Falls() != 1 {
		t.Errorf("%d power losses", d.Falls())
	}
}

// Promise 10.1: the power fails at a Put, an Erase, or a Flush; a lost Put keeps its stamp for the next one.
func TestPowerFailsAtCall(t *testing.T) {
	d := newDisk(t, 2)
	g := newGuard(t, d, 1)
	lose := func(what string, call func() api.Errno) {
		t.Helper()
		check(t, "Arm", d.Arm(0, disk.Fall{Tear: -1}), api.OK)
		check(t, what, call(), api.ErrDown)
		if d.Up() {
			t.Errorf("%s: the power is on", what)
		}
		check(t, "Start", d.Start(), api.OK)
	}
	checkPut(t, g, 0, "a", stampOf(1, 1), api.OK)
	check(t, "Flush", g.Flush(), api.OK)
	lose("Put", func() api.Errno { checkPut(t, g, 0, "b", 0, api.ErrDown); return api.ErrDown })
	lose("Erase", func() api.Errno { return g.Erase(0) })
	checkGet(t, g, 0, "a", stampOf(1, 1), api.OK)
	checkPut(t, g, 0, "c", stampOf(1, 2), api.OK)
	lose("Flush", g.Flush)
	checkGet(t, g, 0, "a", stampOf(1, 1), api.OK)
	checkPut(t, g, 0, "d", stampOf(1, 3), api.OK)
	checkActs(t, d, 4)
}

// Promise 10.1: each guard counts for itself; what one writes the other reads.
func TestTwoGuards(t *testing.T) {
	d, other := newDisk(t, 2), newDisk(t, 2)
	g, later, far := newGuard(t, d, 1), newGuard(t, d, 2), newGuard(t, other, 1)
	checkPut(t, g, 0, "a", stampOf(1, 1), api.OK)
	checkPut(t, later, 1, "b", stampOf(2, 1), api.OK)
	checkPut(t, far, 0, "c", stampOf(1, 1), api.OK)
	checkPut(t, g, 0, "d", stampOf(1, 2), api.OK)
	checkPut(t, later, 1, "e", stampOf(2, 2), api.OK)
	checkGet(t, later, 0, "d", stampOf(1, 2), api.OK)
	checkGet(t, g, 1, "e", stampOf(2, 2), api.OK)
	checkGet(t, far, 0, "c", stampOf(1, 1), api.OK)
	checkGet(t, far, 1, "", 0, api.ErrNone)
	check(t, "Flush of the other disk", far.Flush(), api.OK)
	if len(d.Waiting()) != 2 || len(other.Waiting()) != 0 {
		t.Errorf("pending: %v, %v", d.Waiting(), other.Waiting())
	}
}

// The chapter's examples.
func TestExamples(t *testing.T) {
	d := newDisk(t, 3)
	checkPut(t, newGuard(t, d, 1), 0, "a", 4294967297, api.OK)
	g := newGuard(t, d, 2)
	checkPut(t, g, 1, "hello", 8589934593, api.OK)
	checkGet(t, g, 1, "hello", 8589934593, api.OK)
	check(t, "Flush", g.Flush(), api.OK)
	checkPut(t, g, 1, "other", 8589934594, api.OK)
	check(t, "Crash", d.Crash(disk.Fall{Tear: 20}), api.OK)
	check(t, "Start", d.Start(), api.OK)
	checkRead(t, d, 1, "", 0, api.ErrTorn)
	checkRead(t, d, 0, "a", 4294967297, api.OK)
	checkPut(t, g, 1, strings.Repeat("l", 48), 0, api.ErrLong)
	if none, e := guard.New(d, 0); none != nil || e != api.ErrArg {
		t.Errorf("New(.., 0) = %v, %v", none, e)
	}
}

// Promise 10.4.
func TestNoGuard(t *testing.T) {
	refused, _ := guard.New(newDisk(t, 1), 0)
	for what, g := range map[string]*guard.Guard{"nil": nil, "zero": {}, "refused": refused} {
		for range 2 {
			for _, i := range []int{0, 1, -1, math.MaxInt, math.MinInt} {
				for _, s := range []string{"", "s", strings.Repeat("l", 47), strings.Repeat("l", 48)} {
					checkPut(t, g, i, s, 0, api.ErrState)
				}
				check(t, what+": Erase", g.Erase(i), api.ErrState)
				checkGet(t, g, i, "", 0, api.ErrState)
			}
			check(t, what+": Flush", g.Flush(), api.ErrState)
			if g.Disk() != nil {
				t.Errorf("%s: Disk = %v", what, g.Disk())
			}
		}
	}
}
