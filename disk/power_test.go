package disk_test

import (
	"math"
	"strings"
	"testing"

	"chartulary/api"
	"chartulary/disk"
)

// none is a power loss after which nothing pending is durable.
var none = disk.Fall{Tear: -1}

// Promise 9.2, example 1.
func TestTorn(t *testing.T) {
	d := newDisk(t, 1)
	d.Write(0, full("x"))
	check(t, "Crash", d.Crash(disk.Fall{Keep: 0, Tear: 3}), api.OK)
	want := "xxx" + strings.Repeat("\x00", 61)
	checkDurable(t, d, 0, want, 1)
	check(t, "Start", d.Start(), api.OK)
	checkRead(t, d, 0, want)
	checkCounts(t, d, 1, 1)
}

// Promises 9.2 and 9.3, example 2.
func TestTornAndKept(t *testing.T) {
	d := newDisk(t, 3)
	d.Write(0, full("x"))
	d.Flush()
	d.Write(0, full("y"))
	d.Write(2, full("y"))
	check(t, "Crash", d.Crash(disk.Fall{Keep: 2, Tear: 10}), api.OK)
	checkDurable(t, d, 0, strings.Repeat("y", 10)+strings.Repeat("x", 54), 3)
	checkDurable(t, d, 1, zeros, 0)
	checkDurable(t, d, 2, full("y"), 4)
}

// Promise 9.2, example 3.
func TestArm(t *testing.T) {
	d := newDisk(t, 2)
	check(t, "Arm", d.Arm(1, none), api.OK)
	check(t, "first Write", d.Write(0, full("x")), api.OK)
	check(t, "second Write", d.Write(1, full("y")), api.ErrDown)
	if d.Up() {
		t.Error("the power is on")
	}
	checkCounts(t, d, 1, 1)
	checkWaiting(t, d)
	checkDurable(t, d, 0, zeros, 0)
	check(t, "Start", d.Start(), api.OK)
	checkRead(t, d, 0, zeros)
	check(t, "Write afterwards", d.Write(1, full("z")), api.OK)
	check(t, "Flush afterwards", d.Flush(), api.OK)
	checkDurable(t, d, 1, full("z"), 2)
	checkCounts(t, d, 3, 1)
}

// Promise 9.2: what was written last counts, once for each sector, whatever the order of the writes.
func TestCrashKeepsLastWrites(t *testing.T) {
	for keep := range uint64(16) {
		d := newDisk(t, 9)
		for _, s := range []string{"8a", "3b", "8c", "0d", "3e", "8f", "5g"} {
			d.Write(int(s[0]-'0'), full(s[1:]))
		}
		checkWaiting(t, d, 0, 3, 5, 8)
		d.Crash(disk.Fall{Keep: keep, Tear: -1})
		for k, s := range []string{"0d4", "3e5", "5g7", "8f6"} {
			if keep>>k&1 == 1 {
				checkDurable(t, d, int(s[0]-'0'), full(s[1:2]), int(s[2]-'0'))
			} else {
				checkDurable(t, d, int(s[0]-'0'), zeros, 0)
			}
		}
		checkDurable(t, d, 1, zeros, 0)
	}
}

// Promise 9.2: beyond 64 pending sectors the bits begin anew, the tear does not.
func TestCrashOfMany(t *testing.T) {
	const n = 200
	for _, keep := range []uint64{0, 1, 1 << 63, 0xf0f0f0f0f0f0f0f0, math.MaxUint64, 1<<63 | 1<<5 | 1} {
		for _, torn := range []int{0, 1, 63, 64, 69, 127, 128, 199} {
			d := newDisk(t, 2*n)
			for k := range n {
				d.Write(2*k+1, full("x"))
			}
			d.Crash(disk.Fall{Keep: keep, Tear: 64*torn + 5})
			for k := range n {
				checkDurable(t, d, 2*k, zeros, 0)
				switch {
				case keep>>(k%64)&1 == 1:
					checkDurable(t, d, 2*k+1, full("x"), k+1)
				case k == torn:
					checkDurable(t, d, 2*k+1, "xxxxx"+zeros[5:], k+1)
				default:
					checkDurable(t, d, 2*k+1, zeros, 0)
				}
			}
		}
	}
}

// Promise 9.2: a tear of every length, of a sector that is kept as well, or not.
func TestTearOfEveryLength(t *testing.T) {
	for n := range 64 {
		for keep, want := range map[uint64]string{0: strings.Repeat("n", n) + strings.Repeat("o", 64-n), 2: full("n")} {
			d := newDisk(t, 3)
			for i := range 3 {
				d.Write(i, full("o"))
			}
			d.Flush()
			for i := range 3 {
				d.Write(i, full("n"))
			}
			d.Crash(disk.Fall{Keep: keep, Tear: 64 + n})
			checkDurable(t, d, 0, full("o"), 1)
			checkDurable(t, d, 1, want, 6)
			checkDurable(t, d, 2, full("o"), 3)
		}
	}
}

// Promise 9.2: a tear of a sector that is not pending does nothing.
func TestTearOfNothing(t *testing.T) {
	for _, tear := range []int{-1, -64, -65, -128, math.MinInt, 128, 129, 191, 1 << 40, math.MaxInt} {
		d := newDisk(t, 4)
		d.Write(3, full("x"))
		d.Flush()
		d.Write(3, full("y"))
		d.Write(0, full("z"))
		d.Crash(disk.Fall{Keep: 1, Tear: tear})
		checkDurable(t, d, 0, full("z"), 4)
		checkDurable(t, d, 1, zeros, 0)
		checkDurable(t, d, 2, zeros, 0)
		checkDurable(t, d, 3, full("x"), 1)
	}
}

// Promise 9.2: nothing is pending after a power loss, so that a second one changes nothing.
func TestCrashTwice(t *testing.T) {
	d := newDisk(t, 2)
	d.Write(0, full("x"))
	d.Write(1, full("y"))
	check(t, "Crash", d.Crash(disk.Fall{Keep: 1, Tear: -1}), api.OK)
	check(t, "Crash without power", d.Crash(disk.Fall{Keep: 3, Tear: 5}), api.ErrDown)
	checkCounts(t, d, 2, 1)
	check(t, "Start", d.Start(), api.OK)
	checkWaiting(t, d)
	check(t, "Crash again", d.Crash(disk.Fall{Keep: 3, Tear: 5}), api.OK)
	checkDurable(t, d, 0, full("x"), 1)
	checkDurable(t, d, 1, zeros, 0)
	checkCounts(t, d, 2, 2)
}

// Promise 9.2: without power no loss can be scheduled, and only Start switches it on.
func TestWithoutPower(t *testing.T) {
	d := newDisk(t, 2)
	check(t, "Start with power", d.Start(), api.ErrThere)
	d.Crash(none)
	for _, acts := range []int{0, 1, -1, math.MinInt} {
		check(t, "Arm", d.Arm(acts, none), api.ErrDown)
	}
	d.Calm()
	if d.Up() {
		t.Error("the power is on")
	}
	check(t, "Start", d.Start(), api.OK)
	check(t, "Start again", d.Start(), api.ErrThere)
	if !d.Up() {
		t.Error("the power is off")
	}
	check(t, "Write", d.Write(0, full("x")), api.OK)
	check(t, "Flush", d.Flush(), api.OK)
	checkCounts(t, d, 2, 1)
}

// Promise 9.2: so many acts succeed, be they writes or flushes.
func TestArmAtEveryAct(t *testing.T) {
	for acts := range 20 {
		d := newDisk(t, 2)
		check(t, "Arm", d.Arm(acts, none), api.OK)
		for k := range 30 {
			want := api.OK
			if k >= acts {
				want = api.ErrDown
			}
			if k%3 == 2 {
				check(t, "Flush", d.Flush(), want)
			} else {
				check(t, "Write", d.Write(k%3, full("x")), want)
			}
		}
		checkCounts(t, d, acts, 1)
	}
}

// Promise 9.2: the power fails instead of a flush, so that its sectors are pending when it does.
func TestArmAtFlush(t *testing.T) {
	d := newDisk(t, 3)
	d.Write(0, full("x"))
	d.Write(1, full("y"))
	check(t, "Arm", d.Arm(0, disk.Fall{Keep: 2, Tear: 7}), api.OK)
	check(t, "Flush", d.Flush(), api.ErrDown)
	checkDurable(t, d, 0, strings.Repeat("x", 7)+zeros[7:], 1)
	checkDurable(t, d, 1, full("y"), 2)
	checkCounts(t, d, 2, 1)
}

// Promise 9.2: the power fails instead of a write, so that its sector stays as it was pending.
func TestArmAtWrite(t *testing.T) {
	d := newDisk(t, 2)
	d.Write(1, full("x"))
	d.Arm(0, disk.Fall{Keep: 3, Tear: -1})
	check(t, "Write of the same sector", d.Write(1, full("y")), api.ErrDown)
	checkDurable(t, d, 1, full("x"), 1)
	d.Start()
	d.Write(1, full("z"))
	d.Arm(0, disk.Fall{Keep: 3, Tear: -1})
	check(t, "Write of another sector", d.Write(0, full("y")), api.ErrDown)
	checkDurable(t, d, 0, zeros, 0)
	checkDurable(t, d, 1, full("z"), 2)
	checkCounts(t, d, 2, 2)
}

// Promise 9.2: what is rejected is no act, and neither is what only reads.
func TestArmCountsActs(t *testing.T) {
	d := newDisk(t, 2)
	d.Arm(1, none)
	idle := func() {
		t.Helper()
		check(t, "Write outside", d.Write(2, full("x")), api.ErrRange)
		check(t, "Write before", d.Write(-1, full("x")), api.ErrRange)
		check(t, "Write of a wrong length", d.Write(0, "x"), api.ErrArg)
		check(t, "Start", d.Start(), api.ErrThere)
		d.Read(0)
		d.Read(2)
		d.Waiting()
		d.Image()
		d.Stamp(0)
	}
	idle()
	check(t, "first act", d.Write(0, full("x")), api.OK)
	idle()
	if !d.Up() {
		t.Error("the power failed")
	}
	check(t, "second act", d.Write(0, full("x")), api.ErrDown)
	checkCounts(t, d, 1, 1)
}

// Promise 9.2: a later Arm replaces an earlier one, but not if it is rejected.
func TestArmAgain(t *testing.T) {
	d := newDisk(t, 1)
	check(t, "Arm", d.Arm(0, disk.Fall{Keep: 1, Tear: -1}), api.OK)
	check(t, "later Arm", d.Arm(2, none), api.OK)
	for _, acts := range []int{-1, -2, math.MinInt} {
		check(t, "rejected Arm", d.Arm(acts, disk.Fall{Keep: 1}), api.ErrArg)
	}
	check(t, "first act", d.Write(0, full("x")), api.OK)
	check(t, "second act", d.Write(0, full("y")), api.OK)
	check(t, "third act", d.Flush(), api.ErrDown)
	checkDurable(t, d, 0, zeros, 0)

	d.Start()
	d.Arm(5, none)
	d.Write(0, full("x"))
	check(t, "earlier loss", d.Arm(0, disk.Fall{Keep: 1, Tear: -1}), api.OK)
	check(t, "act", d.Write(0, full("y")), api.ErrDown)
	checkDurable(t, d, 0, full("x"), 3)
	checkCounts(t, d, 3, 2)
}

// Promise 9.2.
func TestArmFarAhead(t *testing.T) {
	d := newDisk(t, 1)
	check(t, "Arm", d.Arm(math.MaxInt, none), api.OK)
	for range 1000 {
		check(t, "Write", d.Write(0, full("x")), api.OK)
		check(t, "Flush", d.Flush(), api.OK)
	}
	checkCounts(t, d, 2000, 0)
}

// Promise 9.2.
func TestCalm(t *testing.T) {
	d := newDisk(t, 1)
	d.Calm()
	d.Arm(1, none)
	d.Write(0, full("x"))
	d.Calm()
	d.Calm()
	check(t, "Write", d.Write(0, full("y")), api.OK)
	check(t, "Flush", d.Flush(), api.OK)
	checkDurable(t, d, 0, full("y"), 2)
	checkCounts(t, d, 3, 0)
	check(t, "Arm", d.Arm(0, none), api.OK)
	check(t, "Flush", d.Flush(), api.ErrDown)
	checkCounts(t, d, 3, 1)
}

// Promise 9.2: a power loss that is scheduled does not outlast another one.
func TestArmEndsWithPower(t *testing.T) {
	d := newDisk(t, 1)
	d.Arm(1, none)
	d.Crash(none)
	d.Start()
	for range 5 {
		check(t, "Flush after Crash", d.Flush(), api.OK)
	}
	d.Arm(0, none)
	d.Flush()
	d.Start()
	for range 5 {
		check(t, "Flush after Arm", d.Flush(), api.OK)
	}
	checkCounts(t, d, 10, 2)
}

// Promise 9.3: a torn write counts though none of its bytes became durable; a lost one does not.
func TestStampOfTornSector(t *testing.T) {
	d := newDisk(t, 3)
	for i := range 3 {
		d.Write(i, full("o"))
	}
	d.Flush()
	for i := range 3 {
		d.Write(i, full("n"))
	}
	d.Crash(disk.Fall{Tear: 64})
	checkDurable(t, d, 0, full("o"), 1)
	checkDurable(t, d, 1, full("o"), 6)
	checkDurable(t, d, 2, full("o"), 3)

	d = newDisk(t, 2)
	d.Write(1, full("n"))
	d.Crash(disk.Fall{})
	checkDurable(t, d, 0, zeros, 0)
	checkDurable(t, d, 1, zeros, 1)
}

// Promise 9.3: acts are numbered on after a power loss, and the one that it came instead of has no number.
func TestActsAfterPowerLoss(t *testing.T) {
	d := newDisk(t, 1)
	for k := range 10 {
		check(t, "Write", d.Write(0, full("x")), api.OK)
		check(t, "Flush", d.Flush(), api.OK)
		checkDurable(t, d, 0, full("x"), 2*k+1)
		d.Arm(0, none)
		check(t, "Write without power", d.Write(0, full("y")), api.ErrDown)
		check(t, "Start", d.Start(), api.OK)
		checkCounts(t, d, 2*k+2, k+1)
	}
}
