package super_test

import (
	"math"
	"strings"
	"testing"

	"chartulary/api"
	"chartulary/disk"
	"chartulary/guard"
	"chartulary/super"
)

// put puts data into a sector, which are not those of a superblock, or not in its sector.
func put(t *testing.T, d *disk.Disk, boot, i int, data string) {
	t.Helper()
	_, e := newGuard(t, d, boot).Put(i, data)
	check(t, "Put", e, api.OK)
}

// Promise 11.1: the greater Gen counts, whichever was saved last, and with whatever stamps.
func TestLoadOfTwo(t *testing.T) {
	for _, l := range [][2]super.Super{
		{of(1, 1, 0, 1), of(2, 1, 0, 1)},
		{of(1, 9, 1, 1), of(2, 3, 0, 1)},
		{of(2, 1, 0, 1), of(3, 1, 0, 1)},
		{of(255, 1, 0, 200), of(256, 1, 0, 1)},
		{of(8, 1, 0, 1), of(65537, 1, 0, 1)},
		{of(greatest-1, 2, 1, 3), of(greatest, 2, 1, 3)},
	} {
		for _, boots := range [][2]int{{1, 2}, {2, 1}} {
			for _, flip := range []int{0, 1} {
				d := newDisk(t, 2)
				checkSave(t, newGuard(t, d, boots[0]), l[flip], api.OK)
				checkLoad(t, d, l[flip], api.OK)
				checkSave(t, newGuard(t, d, boots[1]), l[1-flip], api.OK)
				checkLoad(t, d, l[1], api.OK)
			}
		}
	}
}

// Promise 11.1: one superblock after the other, of which the last two stay on the disk.
func TestLoadOfMany(t *testing.T) {
	d := newDisk(t, 5)
	g := newGuard(t, d, 1)
	s := of(1, 1, 0, 1)
	for n := range 600 {
		checkSave(t, g, s, api.OK)
		checkLoad(t, d, s, api.OK)
		checkData(t, d, s.Gen%2, bytesOf(s), 1<<32+s.Gen)
		s = super.Next(s, n%3 == 1)
		s.Boot += n % 2
	}
	if s.Gen != 601 || s.Boot != 301 || s.Side != 0 || s.Seed != 600 {
		t.Errorf("in the end: %+v", s)
	}
}

// Promise 11.1: what is pending is read as it was written.
func TestLoadOfPending(t *testing.T) {
	d := newDisk(t, 2)
	put(t, d, 1, 1, bytesOf(of(1, 1, 0, 1)))
	checkLoad(t, d, of(1, 1, 0, 1), api.OK)
	put(t, d, 2, 0, bytesOf(of(2, 1, 0, 1)))
	checkLoad(t, d, of(2, 1, 0, 1), api.OK)
	check(t, "Crash", d.Crash(disk.Fall{Keep: 2, Tear: -1}), api.OK)
	check(t, "Start", d.Start(), api.OK)
	checkLoad(t, d, of(1, 1, 0, 1), api.OK)
}

// Promise 11.1: a superblock counts only in its own sector, of the first two.
func TestLoadOfWrongSector(t *testing.T) {
	for _, s := range valid() {
		d := newDisk(t, 4)
		for i := range 4 {
			if i != s.Gen%2 {
				put(t, d, 1, i, bytesOf(s))
			}
		}
		checkLoad(t, d, super.Super{}, api.ErrNone)
		put(t, d, 2, s.Gen%2, bytesOf(s))
		checkLoad(t, d, s, api.OK)
	}
}

// Promise 11.1: an invalid superblock, and one of which the encoding says more than there is, are none; another one beside it still counts.
func TestLoadOfInvalid(t *testing.T) {
	many := "\x07\xff\xff\xff\xff\xff\xff\xff"
	good := bytesOf(of(4, 1, 0, 1))
	for _, data := range []string{
		"", "\x00", "CHART1", "\x01\x06CHART1", "other",
		bytesOf(super.Super{}), bytesOf(of(0, 1, 0, 1)), bytesOf(of(0, 1, 0, 0)), bytesOf(of(4, 0, 0, 1)), bytesOf(of(4, 1, 2, 1)), bytesOf(of(4, 1, 0, 0)), bytesOf(of(4, 1, 0, 5)),
		bytesOf(of(greatest+1, 1, 0, 1)), bytesOf(of(4, greatest+1, 0, 1)), bytesOf(of(greatest+1, 1, 0, greatest+1)), bytesOf(of(4, 1, greatest+1, 1)), bytesOf(of(4, 1<<32+1, 0, 1)),
		"\x01\x06CHART1" + many + many + "\x00" + many,
		"\x01\x06CHART2" + good[8:], "\x01\x06chart1" + good[8:], "\x01\x05CHART" + good[8:], "\x01\x07CHART1\x00" + good[8:], "\x00" + good[8:], "CHART1" + good[8:], good[8:],
		"\x02\x00\x06CHART1" + good[8:], "\x01\x06CHART1\x02\x00\x04" + good[10:], good[:10] + "\x02\x00\x01" + good[12:], good[:12] + "\x01\x00" + good[13:], good[:12] + "\x08" + good[13:],
		good + "\x00", good + "\x01\x01", good + good, "\x00" + good, good[:len(good)-1] + "\x00",
	} {
		for i := range 2 {
			d := newDisk(t, 2)
			put(t, d, 1, i, data)
			checkLoad(t, d, super.Super{}, api.ErrNone)
			other := of(2-i+1, 1, 0, 1)
			put(t, d, 2, 1-i, bytesOf(other))
			checkLoad(t, d, other, api.OK)
		}
	}
}

// Promise 11.1: encodings of which one byte is another one, is left out, or is doubled: only those of valid superblocks in their sectors count.
func TestLoadOfOtherBytes(t *testing.T) {
	encodings := map[string]super.Super{}
	for a := range 256 {
		for _, s := range []super.Super{of(a, 7, 1, 5), of(9, a, 1, 5), of(9, 7, a, 5), of(9, 7, 1, a)} {
			if super.Right(s) {
				encodings[bytesOf(s)] = s
			}
		}
	}
	whole := bytesOf(of(9, 7, 1, 5))
	var l []string
	for at := range len(whole) {
		l = append(l, whole[:at]+whole[at+1:], whole[:at+1]+whole[at:], whole[:at])
		for b := range 256 {
			l = append(l, whole[:at]+string([]byte{byte(b)})+whole[at+1:])
		}
	}
	found := 0
	for _, data := range l {
		for i := range 2 {
			d := newDisk(t, 2)
			put(t, d, 1, i, data)
			if s, ok := encodings[data]; ok && s.Gen%2 == i {
				found++
				checkLoad(t, d, s, api.OK)
			} else {
				checkLoad(t, d, super.Super{}, api.ErrNone)
			}
		}
	}
	// The encoding itself, once for each byte, and those with another Gen, from Seed on, another Boot, and another Seed, up to Gen; a Side of 0 is one byte shorter.
	if want := len(whole) + 250 + 254 + 8; found != want {
		t.Errorf("%d encodings were loaded, want %d", found, want)
	}
}

// Promise 11.1: a sector that is torn, or blank, or of no format, is passed over.
func TestLoadOfTorn(t *testing.T) {
	for i := range 2 {
		for _, bytes := range []string{strings.Repeat("x", 64), strings.Repeat("\x00", 63) + "\x01", bytesOf(of(4, 1, 0, 1)) + strings.Repeat("\x00", 64-len(bytesOf(of(4, 1, 0, 1))))} {
			d := newDisk(t, 2)
			check(t, "Write", d.Write(i, bytes), api.OK)
			checkLoad(t, d, super.Super{}, api.ErrNone)
			s := of(7-i, 2, 1, 3)
			checkSave(t, newGuard(t, d, 1), s, api.OK)
			if s.Gen%2 == i {
				t.Fatal("the test has written over its own sector")
			}
			checkLoad(t, d, s, api.OK)
			check(t, "Write", d.Write(1-i, bytes), api.OK)
			checkLoad(t, d, super.Super{}, api.ErrNone)
			check(t, "Erase", newGuard(t, d, 2).Erase(1-i), api.OK)
			checkLoad(t, d, super.Super{}, api.ErrNone)
		}
	}
}

// Promise 11.1: the errors of the disk; a sector that there is not hides the one that there is.
func TestLoadErrors(t *testing.T) {
	refused, _ := disk.New(0)
	for _, none := range []*disk.Disk{nil, {}, refused} {
		checkLoad(t, none, super.Super{}, api.ErrState)
	}
	d := newDisk(t, 1)
	checkLoad(t, d, super.Super{}, api.ErrRange)
	checkSave(t, newGuard(t, d, 1), of(2, 1, 0, 1), api.OK)
	checkLoad(t, d, super.Super{}, api.ErrRange)
	d.Crash(disk.Fall{})
	checkLoad(t, d, super.Super{}, api.ErrDown)

	d = newDisk(t, 2)
	checkSave(t, newGuard(t, d, 1), of(2, 1, 0, 1), api.OK)
	d.Crash(disk.Fall{})
	checkLoad(t, d, super.Super{}, api.ErrDown)
	d.Start()
	checkLoad(t, d, of(2, 1, 0, 1), api.OK)
}

// Rule R1: numbers of all sizes in all places.
func TestNothingPanics(t *testing.T) {
	numbers := []int{math.MinInt, -greatest, -1, 0, 1, 2, 255, greatest, greatest + 1, 1 << 56, math.MaxInt}
	d := newDisk(t, 2)
	g := newGuard(t, d, guard.MaxBoot)
	for _, gen := range numbers {
		for _, boot := range numbers {
			for _, side := range numbers {
				for _, seed := range numbers {
					s := of(gen, boot, side, seed)
					super.Next(super.Next(s, false), true)
					want := api.ErrArg
					if super.Right(s) {
						want = api.OK
					}
					checkSave(t, g, s, want)
				}
			}
		}
	}
}
