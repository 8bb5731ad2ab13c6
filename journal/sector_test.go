package journal_test

import (
	"slices"
	"strings"
	"testing"

	"chartulary/api"
	"chartulary/disk"
	"chartulary/journal"
)

// eight is a number as eight bytes, the highest first.
func eight(n int) string {
	var b [8]byte
	for i, left := 7, uint64(n); i >= 0; i, left = i-1, left/256 {
		b[i] = byte(left % 256)
	}
	return string(b[:])
}

// dataOf is what the sectors of a record contain, of which the first one is linked to link, and the further ones to the stamps from first on.
func dataOf(s string, link, first int) []string {
	n := min(36, len(s))
	l := []string{"\x01" + eight(link) + string([]byte{byte(len(s) / 256), byte(len(s) % 256)}) + s[:n]}
	for s = s[n:]; s != ""; s = s[n:] {
		n = min(38, len(s))
		l = append(l, "\x02"+eight(first+len(l)-1)+s[:n])
	}
	return l
}

// stampOf is the stamp of the n-th sector that a guard writes.
func stampOf(boot, n int) int {
	return boot*4294967296 + n
}

// Promises 12.1 and 12.2: how the sectors are laid out.
func TestSectors(t *testing.T) {
	for _, n := range lengths() {
		for _, seed := range []int{1, 9, 0x01020304, 1<<32 - 1} {
			d := newDisk(t, 170)
			g := newGuard(t, d, 3)
			j := open(t, g, 2, 165, seed)
			checkAppend(t, j, of(n), "second")
			all := dataOf(of(n), seed, stampOf(3, 1))
			all = append(all, dataOf("second", stampOf(3, len(all)), 0)...)
			for i, want := range all {
				if s, stamp, e := g.Get(2 + i); s != want || stamp != stampOf(3, i+1) || e != api.OK {
					t.Fatalf("%d bytes: sector %d = %q, %d, %v, want %q", n, i, s, stamp, e, want)
				}
			}
			if !g.Blank(0) || !g.Blank(1) || !g.Blank(2+len(all)) {
				t.Errorf("%d bytes: other sectors were written", n)
			}
		}
	}
}

// Promise 12.2: the links go on over a start, and leave out what others write with the same guard.
func TestLinks(t *testing.T) {
	d := newDisk(t, 12)
	g := newGuard(t, d, 1)
	j := open(t, g, 2, 8, 9)
	g.Put(0, "other")
	checkAppend(t, j, "one")
	g.Put(1, "other")
	checkAppend(t, j, of(40))
	check(t, "Flush", j.Flush(), api.OK)
	g = newGuard(t, d, 7)
	j = open(t, g, 2, 8, 9)
	checkAppend(t, j, "three")
	want := append(dataOf("one", 9, 0), dataOf(of(40), stampOf(1, 2), stampOf(1, 4))...)
	want = append(want, dataOf("three", stampOf(1, 5), 0)...)
	for i, s := range want {
		if got, _, _ := g.Get(2 + i); got != s {
			t.Errorf("sector %d = %q, want %q", i, got, s)
		}
	}
}

// put writes sectors with a guard of boot 1, from sector 2 on.
func put(t *testing.T, d *disk.Disk, sectors []string) {
	t.Helper()
	g := newGuard(t, d, 1)
	for i, s := range sectors {
		_, e := g.Put(2+i, s)
		check(t, "Put", e, api.OK)
	}
	check(t, "Flush", g.Flush(), api.OK)
}

// three is what three records are stored as, with the seed 9, from the stamp of boot 1 on: one of one sector, one of three, and one of one.
func three() []string {
	l := dataOf("first", 9, 0)
	l = append(l, dataOf(of(100), stampOf(1, 1), stampOf(1, 2))...)
	return append(l, dataOf("last", stampOf(1, 4), 0)...)
}

// Promise 12.1: sectors that the test has written are records; the seed is that of the first one.
func TestOpen(t *testing.T) {
	d := newDisk(t, 20)
	put(t, d, three())
	acts := d.Acts()
	all := []string{"first", of(100), "last"}
	for size, n := range []int{0, 1, 1, 1, 2, 3, 3, 3} {
		if size > 0 {
			checkRecords(t, open(t, newGuard(t, d, 2), 2, size, 9), size, n, all[:n])
		}
	}
	for _, seed := range []int{1, 8, 10, 9 + 256, 9 << 8, 1<<32 - 1} {
		checkRecords(t, open(t, newGuard(t, d, 2), 2, 8, seed), 8, 0, nil)
	}
	for _, base := range []int{0, 1, 3, 6, 7} {
		checkRecords(t, open(t, newGuard(t, d, 2), base, 8, 9), 8, 0, nil)
	}
	checkActs(t, d, acts)
}

// Promise 12.1: sectors of which one is another one; what is connected ends before it.
func TestOpenOfOtherSectors(t *testing.T) {
	for what, c := range map[string]struct {
		sector int
		to     func(s string) string
	}{
		"kind of a first sector":        {1, func(s string) string { return "\x02" + s[1:] }},
		"kind of a further sector":      {2, func(s string) string { return "\x01" + s[1:] }},
		"kind 0":                        {1, func(s string) string { return "\x00" + s[1:] }},
		"kind 3":                        {2, func(s string) string { return "\x03" + s[1:] }},
		"kind and bit":                  {1, func(s string) string { return "\x81" + s[1:] }},
		"link to the next but one":      {1, func(s string) string { return s[:1] + eight(stampOf(1, 0)) + s[9:] }},
		"link to itself":                {1, func(s string) string { return s[:1] + eight(stampOf(1, 2)) + s[9:] }},
		"link to the seed":              {1, func(s string) string { return s[:1] + eight(9) + s[9:] }},
		"link of another boot":          {1, func(s string) string { return s[:1] + eight(stampOf(2, 1)) + s[9:] }},
		"link of a further sector":      {3, func(s string) string { return s[:1] + eight(stampOf(1, 2)) + s[9:] }},
		"further sector with a seed":    {2, func(s string) string { return s[:1] + eight(9) + s[9:] }},
		"no data":                       {1, func(s string) string { return "" }},
		"no data further":               {3, func(s string) string { return "" }},
		"kind alone":                    {1, func(s string) string { return s[:1] }},
		"part of a link":                {1, func(s string) string { return s[:8] }},
		"link alone":                    {1, func(s string) string { return s[:9] }},
		"link alone further":            {3, func(s string) string { return s[:9] }},
		"half a length":                 {1, func(s string) string { return s[:10] }},
		"length alone":                  {1, func(s string) string { return s[:11] }},
		"a byte less":                   {1, func(s string) string { return s[:46] }},
		"a byte less further":           {2, func(s string) string { return s[:46] }},
		"a byte less at the end":        {3, func(s string) string { return s[:len(s)-1] }},
		"a byte more at the end":        {3, func(s string) string { return s + "x" }},
		"a sector full at the end":      {3, func(s string) string { return s + strings.Repeat("x", 47-len(s)) }},
		"a longer length":               {1, func(s string) string { return s[:10] + "\x65" + s[11:] }},
		"a shorter length":              {1, func(s string) string { return s[:10] + "\x63" + s[11:] }},
		"length of two sectors":         {1, func(s string) string { return s[:10] + "\x25" + s[11:] }},
		"length 0":                      {1, func(s string) string { return s[:10] + "\x00" + s[11:] }},
		"length of two more":            {1, func(s string) string { return s[:9] + "\x01" + s[10:] }},
		"length of all":                 {1, func(s string) string { return s[:9] + "\xff\xff" + s[11:] }},
		"length 6001":                   {1, func(s string) string { return s[:9] + "\x17\x71" + s[11:] }},
		"length with the bytes swapped": {1, func(s string) string { return s[:9] + s[10:11] + s[9:10] + s[11:] }},
	} {
		d := newDisk(t, 300)
		l := three()
		if l[c.sector] == c.to(l[c.sector]) {
			t.Errorf("%s: the sector is the same", what)
		}
		l[c.sector] = c.to(l[c.sector])
		put(t, d, l)
		j, e := journal.Open(newGuard(t, d, 2), 2, 298, 9)
		if e != api.OK || !slices.Equal(j.Records(), []string{"first"}) {
			t.Errorf("%s: %.100q, %v", what, j.Records(), e)
		}
		checkRecords(t, j, 298, 1, []string{"first"})
	}
}

// Promise 12.1: of each sector every byte that is another one counts, but for those of the record's own bytes.
func TestOpenOfOtherBytes(t *testing.T) {
	for sector := range three() {
		for i := range len(three()[sector]) {
			d := newDisk(t, 10)
			l := three()
			b := []byte(l[sector])
			b[i] ^= 0x11
			l[sector] = string(b)
			put(t, d, l)
			j := open(t, newGuard(t, d, 2), 2, 8, 9)
			n := []int{0, 1, 1, 1, 2}[sector]
			if own := i >= 9 && (i >= 11 || sector == 2 || sector == 3); own {
				n = 3
			}
			if len(j.Records()) != n {
				t.Errorf("sector %d, byte %d: %q, want %d records", sector, i, j.Records(), n)
			}
		}
	}
}

// Promise 12.1: sectors that are missing, torn, or have a stamp of a later write, to which what follows is not linked.
func TestOpenOfLostSectors(t *testing.T) {
	for _, c := range map[string]struct {
		want [5]int // how many records there are without a sector
		lose func(d *disk.Disk, i int)
	}{
		"blank": {[5]int{0, 1, 1, 1, 2}, func(d *disk.Disk, i int) { d.Write(i, strings.Repeat("\x00", 64)) }},
		"other": {[5]int{0, 1, 1, 1, 2}, func(d *disk.Disk, i int) { d.Write(i, strings.Repeat("x", 64)) }},
		"torn": {[5]int{0, 1, 1, 1, 2}, func(d *disk.Disk, i int) {
			s, _ := d.Read(i)
			d.Write(i, s[:63]+"\xff")
		}},
		"written again": {[5]int{1, 1, 1, 2, 3}, func(d *disk.Disk, i int) {
			g := newGuard(t, d, 2)
			s, _, _ := g.Get(i)
			g.Put(i, s)
		}},
	} {
		for sector, n := range c.want {
			d := newDisk(t, 10)
			put(t, d, three())
			c.lose(d, 2+sector)
			d.Flush()
			checkRecords(t, open(t, newGuard(t, d, 3), 2, 8, 9), 8, n, []string{"first", of(100), "last"}[:n])
		}
	}
}

// Promise 12.1: a sector that is written again, so that a record of one sector is at the end, though what followed it is still there.
func TestOpenBeforeStaleSectors(t *testing.T) {
	d := newDisk(t, 10)
	put(t, d, three())
	j := open(t, newGuard(t, d, 2), 2, 1, 9)
	checkRecords(t, j, 1, 1, []string{"first"})
	g := newGuard(t, d, 3)
	g.Put(3, dataOf("second", stampOf(1, 1), 0)[0])
	g.Flush()
	checkRecords(t, open(t, newGuard(t, d, 4), 2, 8, 9), 8, 2, []string{"first", "second"})
}

// Promise 12.1: the length of a record goes up to 6000 and not beyond, even though all its sectors are there.
func TestOpenOfLongRecords(t *testing.T) {
	for _, n := range []int{5999, 6000, 6001, 6002, 6003, 7000} {
		d := newDisk(t, 300)
		put(t, d, append(dataOf("first", 9, 0), dataOf(of(n), stampOf(1, 1), stampOf(1, 2))...))
		want := []string{"first"}
		if n <= 6000 {
			want = append(want, of(n))
		}
		checkRecords(t, open(t, newGuard(t, d, 2), 2, 290, 9), 290, len(want), want)
	}
}
