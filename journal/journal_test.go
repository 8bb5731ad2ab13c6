package journal_test

import (
	"math"
	"slices"
	"strings"
	"testing"

	"chartulary/api"
	"chartulary/disk"
	"chartulary/guard"
	"chartulary/journal"
)

// newDisk is a disk of n sectors.
func newDisk(t *testing.T, n int) *disk.Disk {
	t.Helper()
	d, e := disk.New(n)
	if e != api.OK {
		t.Fatalf("disk.New(%d): %v", n, e)
	}
	return d
}

// newGuard is a guard of a disk.
func newGuard(t *testing.T, d *disk.Disk, boot int) *guard.Guard {
	t.Helper()
	g, e := guard.New(d, boot)
	if e != api.OK {
		t.Fatalf("guard.New(.., %d): %v", boot, e)
	}
	return g
}

// open is the journal that Open answers.
func open(t *testing.T, g *guard.Guard, base, size, seed int) *journal.Journal {
	t.Helper()
	j, e := journal.Open(g, base, size, seed)
	if e != api.OK || j == nil {
		t.Fatalf("Open(.., %d, %d, %d) = %v, %v", base, size, seed, j, e)
	}
	return j
}

// newJournal is a disk, with a journal of n sectors from sector 2 on, behind which there are two more; its guard has the boot 1, its seed is 9.
func newJournal(t *testing.T, n int) (*disk.Disk, *journal.Journal) {
	t.Helper()
	d := newDisk(t, n+4)
	return d, open(t, newGuard(t, d, 1), 2, n, 9)
}

// check checks how a call ended.
func check(t *testing.T, what string, got, want api.Errno) {
	t.Helper()
	if got != want {
		t.Errorf("%s = %v, want %v", what, got, want)
	}
}

// checkAppend appends records, none of which is refused.
func checkAppend(t *testing.T, j *journal.Journal, records ...string) {
	t.Helper()
	for _, s := range records {
		if e := j.Append(s); e != api.OK {
			t.Fatalf("Append of %d bytes = %v", len(s), e)
		}
	}
}

// sectorsOf is how many sectors records need.
func sectorsOf(records []string) int {
	n := 0
	for _, s := range records {
		n++
		for left := len(s) - 36; left > 0; left -= 38 {
			n++
		}
	}
	return n
}

// checkRecords checks what a journal of size sectors tells of itself.
func checkRecords(t *testing.T, j *journal.Journal, size, sure int, records []string) {
	t.Helper()
	if got := j.Records(); !slices.Equal(got, records) {
		t.Errorf("Records = %.200q, want %.200q", got, records)
	}
	if j.Sure() != sure {
		t.Errorf("Sure = %d, want %d", j.Sure(), sure)
	}
	used := sectorsOf(records)
	if j.Used() != used || j.Left() != size-used {
		t.Errorf("Used, Left = %d, %d, want %d, %d", j.Used(), j.Left(), used, size-used)
	}
}

// checkActs checks how many acts a disk had.
func checkActs(t *testing.T, d *disk.Disk, want int) {
	t.Helper()
	if d.Acts() != want {
		t.Errorf("%d acts, want %d", d.Acts(), want)
	}
}

// of is n bytes, each record of them another one.
func of(n int) string {
	var b strings.Builder
	for i := range n {
		b.WriteByte(byte(i*7 + n))
	}
	return b.String()
}

// lengths are lengths of records: about the ends of all sectors that small ones have, and about the limit.
func lengths() []int {
	l := []int{5999, 6000}
	for n := range 200 {
		l = append(l, n)
	}
	return l
}

// The chapter's numbers.
func TestConstants(t *testing.T) {
	if journal.Head != 36 || journal.Rest != 38 {
		t.Errorf("Head, Rest = %d, %d", journal.Head, journal.Rest)
	}
}

// Promise 12.1.
func TestNeed(t *testing.T) {
	for n, want := range map[int]int{math.MinInt: 1, -37: 1, -1: 1, 0: 1, 1: 1, 35: 1, 36: 1, 37: 2, 38: 2, 73: 2, 74: 2, 75: 3, 100: 3, 112: 3, 113: 4, 400: 11,
		5964: 157, 5965: 158, 6000: 158, 6001: 158, 6002: 158, 6003: 159, 65535: 1725, math.MaxInt - 1: 242720316759336206, math.MaxInt: 242720316759336206} {
		if got := journal.Need(n); got != want {
			t.Errorf("Need(%d) = %d, want %d", n, got, want)
		}
	}
	for n := range 7000 {
		if got := journal.Need(n); got != sectorsOf([]string{strings.Repeat("n", n)}) {
			t.Errorf("Need(%d) = %d", n, got)
		}
	}
}

// Promise 12.1: an empty journal, wherever its sectors lie; nothing is written.
func TestOpenOfNothing(t *testing.T) {
	for _, n := range []int{1, 2, 20, api.MaxSectors} {
		d := newDisk(t, n)
		g := newGuard(t, d, guard.MaxBoot)
		for _, base := range []int{0, 1, n / 2, n - 1} {
			for _, size := range []int{1, 2, n - base} {
				for _, seed := range []int{1, 2, 9, 1<<32 - 1} {
					if size < 1 || base+size > n {
						continue
					}
					checkRecords(t, open(t, g, base, size, seed), size, 0, nil)
				}
			}
		}
		checkActs(t, d, 0)
	}
}

// Promise 12.1, rule R2: ErrArg comes before ErrRange, and that before the error of the disk.
func TestOpenOfWrongArguments(t *testing.T) {
	d := newDisk(t, 10)
	refuse := func(g *guard.Guard, base, size, seed int, want api.Errno) {
		t.Helper()
		if j, e := journal.Open(g, base, size, seed); j != nil || e != want {
			t.Errorf("Open(.., %d, %d, %d) = %v, %v, want %v", base, size, seed, j, e, want)
		}
	}
	all := func(g *guard.Guard, inside api.Errno) {
		t.Helper()
		for _, seed := range []int{0, -1, math.MinInt, 1 << 32, 1<<32 + 1, 1<<33 + 5, math.MaxInt} {
			refuse(g, 0, 10, seed, api.ErrArg)
			refuse(g, 0, 11, seed, api.ErrArg)
		}
		for _, bad := range []int{-1, -10, math.MinInt} {
			refuse(g, bad, 1, 1, api.ErrArg)
			refuse(g, bad, 20, 1, api.ErrArg)
			refuse(g, 0, bad, 1, api.ErrArg)
			refuse(g, 10, bad, 1, api.ErrArg)
			refuse(g, math.MaxInt, bad, 1, api.ErrArg)
		}
		refuse(g, 0, 0, 1, api.ErrArg)
		refuse(g, 11, 0, 1, api.ErrArg)
		for _, out := range [][2]int{{0, 11}, {1, 10}, {9, 2}, {10, 1}, {11, 1}, {0, math.MaxInt}, {math.MaxInt, 1}, {math.MaxInt, math.MaxInt}, {9, math.MaxInt - 8}} {
			refuse(g, out[0], out[1], 1, api.ErrRange)
			refuse(g, out[0], out[1], 1<<32-1, api.ErrRange)
		}
		if inside != api.OK {
			refuse(g, 0, 10, 1, inside)
			refuse(g, 9, 1, 1, inside)
		}
	}
	g := newGuard(t, d, 1)
	all(g, api.OK)
	open(t, g, 9, 1, 1)
	open(t, g, 0, 10, 1)
	d.Crash(disk.Fall{})
	all(g, api.ErrDown)
	d.Start()
	all(g, api.OK)
	checkActs(t, d, 0)
	for _, none := range []*guard.Guard{nil, {}} {
		refuse(none, 0, 1, 1, api.ErrArg)
		refuse(none, 0, 10, 1, api.ErrArg)
		refuse(none, -1, 0, 0, api.ErrArg)
	}
}

// Promise 12.2: records of every length, alone and one after the other.
func TestAppend(t *testing.T) {
	for _, n := range lengths() {
		d, j := newJournal(t, 160)
		checkAppend(t, j, of(n))
		checkRecords(t, j, 160, 0, []string{of(n)})
		check(t, "Flush", j.Flush(), api.OK)
		checkRecords(t, j, 160, 1, []string{of(n)})
		checkRecords(t, open(t, newGuard(t, d, 2), 2, 160, 9), 160, 1, []string{of(n)})
	}
	d, j := newJournal(t, 2000)
	var want []string
	for k, n := range lengths() {
		want = append(want, of(n))
		checkAppend(t, j, of(n))
		checkRecords(t, j, 2000, k/10*10, want)
		if k%10 == 9 {
			check(t, "Flush", j.Flush(), api.OK)
		}
	}
	check(t, "Flush", j.Flush(), api.OK)
	checkRecords(t, open(t, newGuard(t, d, 2), 2, 2000, 9), 2000, len(want), want)
}

// Promise 12.2: what a record is made of does not matter.
func TestAppendOfAnything(t *testing.T) {
	want := []string{"", strings.Repeat("\x00", 36), strings.Repeat("\x00", 74), strings.Repeat("\xff", 80), "\x01", "\x02", "", "", "l\xc3\xa4nge", strings.Repeat("\x02", 200)}
	d, j := newJournal(t, 30)
	checkAppend(t, j, want...)
	check(t, "Flush", j.Flush(), api.OK)
	checkRecords(t, j, 30, len(want), want)
	checkRecords(t, open(t, newGuard(t, d, 2), 2, 30, 9), 30, len(want), want)
}

// Promise 12.2: a record is written with as many acts as it needs sectors; a Flush is one act, if a record is not durable yet.
func TestActs(t *testing.T) {
	d, j := newJournal(t, 20)
	check(t, "Flush of nothing", j.Flush(), api.OK)
	checkActs(t, d, 0)
	checkAppend(t, j, "one")
	checkActs(t, d, 1)
	checkAppend(t, j, of(100))
	checkActs(t, d, 4)
	check(t, "Flush", j.Flush(), api.OK)
	checkActs(t, d, 5)
	for range 3 {
		check(t, "Flush again", j.Flush(), api.OK)
	}
	checkActs(t, d, 5)
	checkAppend(t, j, "")
	check(t, "Flush", j.Flush(), api.OK)
	checkActs(t, d, 7)
	j = open(t, newGuard(t, d, 2), 2, 20, 9)
	check(t, "Flush of what was opened", j.Flush(), api.OK)
	checkActs(t, d, 7)
	for _, i := range []int{0, 1, 22, 23} {
		if s, _ := d.Read(i); s != strings.Repeat("\x00", 64) {
			t.Errorf("sector %d = %q", i, s)
		}
	}
}

// Promise 12.2: a journal is filled to its last sector; what does not fit changes nothing.
func TestFull(t *testing.T) {
	d, j := newJournal(t, 12)
	checkAppend(t, j, "one", of(100))
	for _, n := range []int{303, 304, 400, 6000} {
		check(t, "Append", j.Append(of(n)), api.ErrFull)
	}
	for _, n := range []int{6001, 6002, 65535, 65536, 100000} {
		check(t, "Append", j.Append(of(n)), api.ErrLong)
	}
	checkActs(t, d, 4)
	checkRecords(t, j, 12, 0, []string{"one", of(100)})
	want := []string{"one", of(100), of(302)}
	checkAppend(t, j, of(302))
	checkRecords(t, j, 12, 0, want)
	for _, n := range []int{0, 1, 36, 37} {
		check(t, "Append", j.Append(of(n)), api.ErrFull)
	}
	check(t, "Append", j.Append(of(6001)), api.ErrLong)
	check(t, "Flush", j.Flush(), api.OK)
	checkRecords(t, j, 12, 3, want)
	j = open(t, newGuard(t, d, 2), 2, 12, 9)
	checkRecords(t, j, 12, 3, want)
	check(t, "Append", j.Append(""), api.ErrFull)

	_, j = newJournal(t, 1)
	check(t, "Append", j.Append(of(37)), api.ErrFull)
	checkAppend(t, j, of(36))
	check(t, "Append", j.Append(""), api.ErrFull)
	checkRecords(t, j, 1, 0, []string{of(36)})

	_, j = newJournal(t, 157)
	check(t, "Append", j.Append(of(6000)), api.ErrFull)
	_, j = newJournal(t, 158)
	checkAppend(t, j, of(6000))
	checkRecords(t, j, 158, 0, []string{of(6000)})
}

// Promises 12.1 and 12.2: a journal goes on where the last start left it.
func TestGoesOn(t *testing.T) {
	d := newDisk(t, 100)
	var want []string
	for boot := 1; boot < 20; boot++ {
		j := open(t, newGuard(t, d, boot), 3, 97, 5)
		checkRecords(t, j, 97, len(want), want)
		want = append(want, of(boot), of(boot*5))
		checkAppend(t, j, want[len(want)-2:]...)
		checkRecords(t, j, 97, len(want)-2, want)
		check(t, "Flush", j.Flush(), api.OK)
		d.Crash(disk.Fall{})
		d.Start()
	}
}

// Promise 12.2: after an error of the disk the journal is dead, though the power comes back, and tells what it had.
func TestDead(t *testing.T) {
	for acts := range 4 {
		d, j := newJournal(t, 12)
		want := []string{"one", of(40)}
		checkAppend(t, j, want[0])
		check(t, "Flush", j.Flush(), api.OK)
		checkAppend(t, j, want[1])
		d.Arm(acts, disk.Fall{Tear: -1})
		if acts == 3 {
			checkAppend(t, j, of(100))
			check(t, "Flush", j.Flush(), api.ErrDown)
			want = append(want, of(100))
		} else {
			check(t, "Append", j.Append(of(100)), api.ErrDown)
		}
		for range 2 {
			check(t, "Append", j.Append(""), api.ErrDown)
			check(t, "Append", j.Append(of(100)), api.ErrDown)
			check(t, "Append", j.Append(of(400)), api.ErrFull)
			check(t, "Append", j.Append(of(6001)), api.ErrLong)
			check(t, "Flush", j.Flush(), api.ErrDown)
			checkRecords(t, j, 12, 1, want)
			d.Start()
		}
		checkActs(t, d, 4+acts)
		checkRecords(t, open(t, newGuard(t, d, 2), 2, 12, 9), 12, 1, want[:1])
	}
}

// Promise 12.2: an Append or a Flush while the power is off makes the journal dead; what is refused before does not.
func TestWithoutPower(t *testing.T) {
	d, j := newJournal(t, 5)
	checkAppend(t, j, "one")
	check(t, "Flush", j.Flush(), api.OK)
	d.Crash(disk.Fall{})
	check(t, "Flush of nothing", j.Flush(), api.OK)
	check(t, "Append", j.Append(of(6001)), api.ErrLong)
	check(t, "Append", j.Append(of(6000)), api.ErrFull)
	checkRecords(t, j, 5, 1, []string{"one"})
	d.Start()
	checkAppend(t, j, "two")
	check(t, "Flush", j.Flush(), api.OK)
	checkRecords(t, j, 5, 2, []string{"one", "two"})
	checkAppend(t, j, "three")
	d.Crash(disk.Fall{})
	check(t, "Flush", j.Flush(), api.ErrDown)
	d.Start()
	check(t, "Append", j.Append("four"), api.ErrDown)
	check(t, "Flush", j.Flush(), api.ErrDown)
	checkRecords(t, j, 5, 2, []string{"one", "two", "three"})

	d, j = newJournal(t, 5)
	d.Crash(disk.Fall{})
	check(t, "Append", j.Append("one"), api.ErrDown)
	d.Start()
	check(t, "Append", j.Append("one"), api.ErrDown)
	check(t, "Flush", j.Flush(), api.ErrDown)
	checkRecords(t, j, 5, 0, nil)
}

// Promise 12.2: what is durable is so whoever flushed the disk, and what is pending is not, whoever wrote it.
func TestSure(t *testing.T) {
	d, j := newJournal(t, 12)
	want := []string{"one", of(100)}
	checkAppend(t, j, want...)
	other := open(t, newGuard(t, d, 2), 2, 12, 9)
	checkRecords(t, other, 12, 0, want)
	d.Flush()
	checkRecords(t, j, 12, 2, want)
	checkRecords(t, other, 12, 2, want)
	check(t, "Flush", j.Flush(), api.OK)
	checkActs(t, d, 5)

	want = append(want, "three", "four")
	checkAppend(t, j, want[2:]...)
	checkRecords(t, j, 12, 2, want)
	other = open(t, newGuard(t, d, 3), 2, 12, 9)
	checkRecords(t, other, 12, 2, want)
	check(t, "Flush", other.Flush(), api.OK)
	checkActs(t, d, 8)
	checkRecords(t, other, 12, 4, want)
	checkRecords(t, j, 12, 4, want)
}

// Promise 12.2: a power loss of which the journal hears nothing makes nothing durable that it did not.
func TestSureAfterPowerLoss(t *testing.T) {
	for keep, want := range []int{1, 2, 1, 3} {
		d, j := newJournal(t, 12)
		checkAppend(t, j, "one")
		check(t, "Flush", j.Flush(), api.OK)
		checkAppend(t, j, "two", "three")
		d.Crash(disk.Fall{Keep: uint64(keep), Tear: -1})
		checkRecords(t, j, 12, 1, []string{"one", "two", "three"})
		d.Start()
		checkRecords(t, j, 12, want, []string{"one", "two", "three"})
		checkRecords(t, open(t, newGuard(t, d, 2), 2, 12, 9), 12, want, []string{"one", "two", "three"}[:want])
		d.Crash(disk.Fall{})
		checkRecords(t, j, 12, want, []string{"one", "two", "three"})
	}
}

// Promise 12.2: what Open found durable is so without power too.
func TestSureWithoutPower(t *testing.T) {
	d, j := newJournal(t, 12)
	checkAppend(t, j, "one", "two")
	check(t, "Flush", j.Flush(), api.OK)
	j = open(t, newGuard(t, d, 2), 2, 12, 9)
	d.Crash(disk.Fall{})
	checkRecords(t, j, 12, 2, []string{"one", "two"})
	check(t, "Flush", j.Flush(), api.OK)
}

// Rule R3: the list of records is the caller's.
func TestRecordsAreCopied(t *testing.T) {
	_, j := newJournal(t, 12)
	checkAppend(t, j, "one", "two")
	l := j.Records()
	l[0] = "other"
	_ = append(l, "three")
	_ = append(l[:1], "other")
	checkRecords(t, j, 12, 0, []string{"one", "two"})
	l = j.Records()
	checkAppend(t, j, "three")
	if !slices.Equal(l, []string{"one", "two"}) {
		t.Errorf("Records = %q", l)
	}
}

// Promise 12.4.
func TestNoJournal(t *testing.T) {
	refused, _ := journal.Open(nil, 0, 1, 1)
	for what, j := range map[string]*journal.Journal{"nil": nil, "zero": {}, "refused": refused} {
		for _, n := range []int{0, 40, 6000, 6001} {
			check(t, what+": Append", j.Append(of(n)), api.ErrState)
		}
		check(t, what+": Flush", j.Flush(), api.ErrState)
		if j.Records() != nil || j.Sure() != 0 || j.Used() != 0 || j.Left() != 0 {
			t.Errorf("%s: %q, %d, %d, %d", what, j.Records(), j.Sure(), j.Used(), j.Left())
		}
	}
}

// The chapter's examples.
func TestExamples(t *testing.T) {
	if journal.Need(36) != 1 || journal.Need(37) != 2 {
		t.Errorf("Need = %d, %d", journal.Need(36), journal.Need(37))
	}
	d, j := newJournal(t, 12)
	want := []string{"one", strings.Repeat("l", 100)}
	checkAppend(t, j, want...)
	check(t, "Flush", j.Flush(), api.OK)
	if j.Used() != 4 || j.Left() != 8 {
		t.Errorf("Used, Left = %d, %d", j.Used(), j.Left())
	}
	checkAppend(t, j, "three", "four")
	d.Crash(disk.Fall{Keep: 2, Tear: -1})
	d.Start()
	j = open(t, newGuard(t, d, 2), 2, 12, 9)
	checkRecords(t, j, 12, 2, want)
	checkAppend(t, j, "five")
	check(t, "Append", j.Append(strings.Repeat("l", 400)), api.ErrFull)
	check(t, "Append", j.Append(strings.Repeat("l", 6001)), api.ErrLong)
	if _, e := journal.Open(newGuard(t, d, 3), 5, 12, 9); e != api.ErrRange {
		t.Errorf("Open = %v", e)
	}
}
