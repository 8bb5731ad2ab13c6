package super_test

import (
	"math"
	"strings"
	"testing"

	"chartulary/api"
	"chartulary/disk"
	"chartulary/guard"
	"chartulary/super"
)

// of is a superblock.
func of(gen, boot, side, seed int) super.Super {
	return super.Super{Gen: gen, Boot: boot, Side: side, Seed: seed}
}

// greatest is the greatest number of all of them but Side.
const greatest = 2147483647

// digits is the encoding of a number, byte by byte.
func digits(n int) string {
	s := ""
	for ; n > 0; n /= 256 {
		s = string([]byte{byte(n % 256)}) + s
	}
	return string([]byte{byte(len(s))}) + s
}

// bytesOf is what the chapter says that a superblock is encoded as.
func bytesOf(s super.Super) string {
	return "\x01\x06CHART1" + digits(s.Gen) + digits(s.Boot) + digits(s.Side) + digits(s.Seed)
}

// valid are superblocks at the limits, and with numbers of every length.
func valid() []super.Super {
	l := []super.Super{of(2, 1, 0, 2), of(2, 1, 1, 1), of(5, 3, 1, 4)}
	for _, n := range []int{1, 2, 255, 256, 257, 65535, 65536, 1<<24 - 1, 1 << 24, 1 << 30, greatest - 1, greatest} {
		for side := range 2 {
			l = append(l, of(n, 1, side, 1), of(n, greatest, side, n), of(n, n, side, (n+1)/2), of(greatest, n, side, n))
		}
	}
	return l
}

// invalid are superblocks of which one number is beyond its limits, or several are.
func invalid() []super.Super {
	l := []super.Super{{}, of(1, 1, 0, 2), of(7, 1, 1, 8), of(greatest-1, 1, 0, greatest), of(-1, -1, -1, -1), of(0, 0, 2, 0), of(0, 1, 0, 0), of(-5, 1, 0, -6)}
	for _, n := range []int{math.MinInt, -1 << 32, -greatest, -2, -1, 0, greatest + 1, 1 << 32, 1<<32 + 1, 1 << 56, math.MaxInt} {
		l = append(l, of(n, 1, 0, 1), of(9, n, 0, 1), of(9, 1, 0, n))
		if n != 0 {
			l = append(l, of(9, 1, n, 1))
		}
	}
	return append(l, of(9, 1, 2, 1), of(9, 1, 3, 1), of(9, 1, greatest, 1), of(greatest+1, 1, 0, greatest+1))
}

// newDisk is a disk of n sectors.
func newDisk(t *testing.T, n int) *disk.Disk {
	t.Helper()
	d, e := disk.New(n)
	if e != api.OK {
		t.Fatalf("disk.New(%d): %v", n, e)
	}
	return d
}

// newGuard is a guard of a disk.
func newGuard(t *testing.T, d *disk.Disk, boot int) *guard.Guard {
	t.Helper()
	g, e := guard.New(d, boot)
	if e != api.OK {
		t.Fatalf("guard.New(.., %d): %v", boot, e)
	}
	return g
}

// check checks how a call ended.
func check(t *testing.T, what string, got, want api.Errno) {
	t.Helper()
	if got != want {
		t.Errorf("%s = %v, want %v", what, got, want)
	}
}

// checkSave checks how saving ends.
func checkSave(t *testing.T, g *guard.Guard, s super.Super, want api.Errno) {
	t.Helper()
	if e := super.Save(g, s); e != want {
		t.Errorf("Save(%+v) = %v, want %v", s, e, want)
	}
}

// checkLoad checks what is loaded, and that it stays so.
func checkLoad(t *testing.T, d *disk.Disk, want super.Super, err api.Errno) {
	t.Helper()
	acts := d.Acts()
	for range 2 {
		if s, e := super.Load(d); s != want || e != err {
			t.Errorf("Load = %+v, %v, want %+v, %v", s, e, want, err)
		}
	}
	checkActs(t, d, acts)
}

// checkActs checks how many acts a disk had.
func checkActs(t *testing.T, d *disk.Disk, want int) {
	t.Helper()
	if d.Acts() != want {
		t.Errorf("%d acts, want %d", d.Acts(), want)
	}
}

// checkData checks the data of a guarded sector, and its stamp.
func checkData(t *testing.T, d *disk.Disk, i int, data string, stamp int) {
	t.Helper()
	if s, n, e := guard.Read(d, i); s != data || n != stamp || e != api.OK {
		t.Errorf("sector %d = %q, %d, %v, want %q, %d", i, s, n, e, data, stamp)
	}
}

// The chapter's number.
func TestConstant(t *testing.T) {
	if super.MaxGen != greatest {
		t.Errorf("MaxGen = %d", super.MaxGen)
	}
}

// Promise 11.1.
func TestRight(t *testing.T) {
	for _, s := range valid() {
		if !super.Right(s) {
			t.Errorf("Right(%+v) = false", s)
		}
	}
	for _, s := range invalid() {
		if super.Right(s) {
			t.Errorf("Right(%+v) = true", s)
		}
	}
}

// Promise 11.1: every small superblock.
func TestRightOfSmallNumbers(t *testing.T) {
	for gen := -2; gen < 5; gen++ {
		for boot := -2; boot < 5; boot++ {
			for side := -2; side < 5; side++ {
				for seed := -2; seed < 5; seed++ {
					want := gen > 0 && boot > 0 && (side == 0 || side == 1) && seed > 0 && seed <= gen
					if s := of(gen, boot, side, seed); super.Right(s) != want {
						t.Errorf("Right(%+v) = %v", s, !want)
					}
				}
			}
		}
	}
}

// Promise 11.1: what is saved, where, by which acts, and that it is durable.
func TestSave(t *testing.T) {
	for _, s := range valid() {
		d := newDisk(t, 4)
		g := newGuard(t, d, 6)
		at := s.Gen % 2
		checkSave(t, g, s, api.OK)
		checkData(t, d, at, bytesOf(s), 6<<32+1)
		for i := range 4 {
			if i != at && !g.Blank(i) {
				t.Errorf("Save(%+v) has written sector %d", s, i)
			}
		}
		checkActs(t, d, 2)
		if len(d.Waiting()) != 0 || d.Stamp(at) != 1 {
			t.Errorf("Save(%+v): %v are pending", s, d.Waiting())
		}
		checkLoad(t, d, s, api.OK)
		check(t, "Crash", d.Crash(disk.Fall{Tear: 9}), api.OK)
		check(t, "Start", d.Start(), api.OK)
		checkLoad(t, d, s, api.OK)
	}
}

// Promise 11.1: a Save flushes what else is pending.
func TestSaveFlushes(t *testing.T) {
	d := newDisk(t, 4)
	g := newGuard(t, d, 1)
	g.Put(3, "other")
	checkSave(t, g, of(1, 1, 0, 1), api.OK)
	if len(d.Waiting()) != 0 {
		t.Errorf("%v are pending", d.Waiting())
	}
	checkData(t, d, 3, "other", 1<<32+1)
	checkData(t, d, 1, bytesOf(of(1, 1, 0, 1)), 1<<32+2)
}

// Promise 11.1, rule R2: what is not valid is refused first, and writes nothing.
func TestSaveOfInvalid(t *testing.T) {
	d, down := newDisk(t, 4), newDisk(t, 4)
	g := newGuard(t, d, 1)
	withoutPower := newGuard(t, down, 1)
	down.Crash(disk.Fall{})
	for _, s := range invalid() {
		for _, each := range []*guard.Guard{g, withoutPower, nil, {}} {
			checkSave(t, each, s, api.ErrArg)
		}
	}
	checkActs(t, d, 0)
	checkLoad(t, d, super.Super{}, api.ErrNone)
	checkSave(t, g, of(1, 1, 0, 1), api.OK)
	checkData(t, d, 1, bytesOf(of(1, 1, 0, 1)), 1<<32+1)
}

// Promise 11.1: the errors of guard and disk.
func TestSaveErrors(t *testing.T) {
	refused, _ := guard.New(nil, 1)
	for _, s := range valid() {
		for _, none := range []*guard.Guard{nil, {}, refused} {
			checkSave(t, none, s, api.ErrState)
		}
	}
	d := newDisk(t, 1)
	g := newGuard(t, d, 1)
	checkSave(t, g, of(1, 1, 0, 1), api.ErrRange)
	checkSave(t, g, of(greatest, 1, 0, 1), api.ErrRange)
	checkActs(t, d, 0)
	checkSave(t, g, of(2, 1, 0, 1), api.OK)
	checkData(t, d, 0, bytesOf(of(2, 1, 0, 1)), 1<<32+1)

	d.Crash(disk.Fall{})
	checkSave(t, g, of(2, 1, 0, 1), api.ErrDown)
	checkSave(t, g, of(1, 1, 0, 1), api.ErrDown)
	d.Start()
	for acts := range 2 {
		check(t, "Arm", d.Arm(acts, disk.Fall{Tear: -1}), api.OK)
		checkSave(t, g, of(4, 1, 0, 1), api.ErrDown)
		if d.Up() {
			t.Error("the power is on")
		}
		check(t, "Start", d.Start(), api.OK)
	}
	checkData(t, d, 0, bytesOf(of(2, 1, 0, 1)), 1<<32+1)
	check(t, "Arm", d.Arm(2, disk.Fall{Tear: -1}), api.OK)
	checkSave(t, g, of(4, 1, 0, 1), api.OK)
}

// Promise 11.2, and that the argument stays.
func TestNext(t *testing.T) {
	least := math.MinInt
	for _, c := range []struct{ s, straight, turned super.Super }{
		{of(1, 1, 0, 1), of(2, 1, 0, 1), of(2, 1, 1, 2)},
		{of(2, 1, 1, 2), of(3, 1, 1, 2), of(3, 1, 0, 3)},
		{of(9, 4, 1, 5), of(10, 4, 1, 5), of(10, 4, 0, 10)},
		{of(greatest-1, greatest, 0, 1), of(greatest, greatest, 0, 1), of(greatest, greatest, 1, greatest)},
		{of(greatest, 1, 0, 1), of(greatest+1, 1, 0, 1), of(greatest+1, 1, 1, greatest+1)},
		{super.Super{}, of(1, 0, 0, 0), of(1, 0, 1, 1)},
		{of(-1, -2, -3, -4), of(0, -2, -3, -4), of(0, -2, 4, 0)},
		{of(-7, 5, 2, 9), of(-6, 5, 2, 9), of(-6, 5, -1, -6)},
		{of(1, 1, 7, 5), of(2, 1, 7, 5), of(2, 1, -6, 2)},
		{of(math.MaxInt, 1, math.MaxInt, 1), of(least, 1, math.MaxInt, 1), of(least, 1, least+2, least)},
		{of(least, 1, least, 1), of(least+1, 1, least, 1), of(least+1, 1, least+1, least+1)},
	} {
		if got := super.Next(c.s, false); got != c.straight {
			t.Errorf("Next(%+v, false) = %+v, want %+v", c.s, got, c.straight)
		}
		if got := super.Next(c.s, true); got != c.turned {
			t.Errorf("Next(%+v, true) = %+v, want %+v", c.s, got, c.turned)
		}
	}
}

// Promise 11.2: of a valid superblock the next one is valid too, until MaxGen.
func TestNextIsRight(t *testing.T) {
	for _, s := range valid() {
		for _, turn := range []bool{false, true} {
			if got := super.Right(super.Next(s, turn)); got != (s.Gen < greatest) {
				t.Errorf("Right(Next(%+v, %v)) = %v", s, turn, got)
			}
		}
	}
}

// The chapter's examples.
func TestExamples(t *testing.T) {
	d := newDisk(t, 2)
	g := newGuard(t, d, 1)
	checkLoad(t, d, super.Super{}, api.ErrNone)
	first := of(1, 1, 0, 1)
	checkSave(t, g, first, api.OK)
	second := super.Next(first, true)
	if second != of(2, 1, 1, 2) {
		t.Errorf("Next = %+v", second)
	}
	for acts := range 2 {
		d.Arm(acts, disk.Fall{Tear: 20})
		checkSave(t, g, second, api.ErrDown)
		d.Start()
		checkLoad(t, d, first, api.OK)
	}
	checkSave(t, g, second, api.OK)
	checkLoad(t, d, second, api.OK)

	if super.Right(of(1, 1, 0, 2)) {
		t.Error("a seed beyond Gen is valid")
	}
	checkSave(t, g, of(1, 1, 0, 2), api.ErrArg)
	checkData(t, d, 0, strings.Join([]string{"\x01\x06CHART1", "\x01\x02", "\x01\x01", "\x01\x01", "\x01\x02"}, ""), 1<<32+3)
}
