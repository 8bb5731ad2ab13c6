package keyring_test

import (
	"math"
	"strings"
	"testing"

	"chartulary/api"
	"chartulary/disk"
	"chartulary/guard"
	"chartulary/keyring"
)

// zeros is a sector of zero bytes.
const zeros = "\x00\x00\x00\x00\x00\x00\x00\x00\x00\x00\x00\x00\x00\x00\x00\x00\x00\x00\x00\x00\x00\x00\x00\x00\x00\x00\x00\x00\x00\x00\x00\x00" +
	"\x00\x00\x00\x00\x00\x00\x00\x00\x00\x00\x00\x00\x00\x00\x00\x00\x00\x00\x00\x00\x00\x00\x00\x00\x00\x00\x00\x00\x00\x00\x00\x00"

// newDisk is a disk of n sectors.
func newDisk(t *testing.T, n int) *disk.Disk {
	t.Helper()
	d, e := disk.New(n)
	if e != api.OK {
		t.Fatalf("disk.New(%d): %v", n, e)
	}
	return d
}

// newGuard is a guard of a disk.
func newGuard(t *testing.T, d *disk.Disk, boot int) *guard.Guard {
	t.Helper()
	g, e := guard.New(d, boot)
	if e != api.OK {
		t.Fatalf("guard.New(.., %d): %v", boot, e)
	}
	return g
}

// newRing is a ring that New made.
func newRing(t *testing.T, g *guard.Guard, base, slots int) *keyring.Ring {
	t.Helper()
	r, e := keyring.New(g, base, slots)
	if e != api.OK || r == nil {
		t.Fatalf("New(.., %d, %d) = %v, %v", base, slots, r, e)
	}
	return r
}

// keyOf is a key of 32 bytes; that of 0 has only zero bytes, and those of other numbers begin and end with one.
func keyOf(n int) string {
	if n == 0 {
		return strings.Repeat("\x00", 32)
	}
	return "\x00" + strings.Repeat(string([]byte{byte(n), byte(n / 256)}), 15) + "\x00"
}

// check checks how a call ended.
func check(t *testing.T, what string, got, want api.Errno) {
	t.Helper()
	if got != want {
		t.Errorf("%s = %v, want %v", what, got, want)
	}
}

// checkPut checks what Put answers.
func checkPut(t *testing.T, r *keyring.Ring, i int, key string, want api.Errno) {
	t.Helper()
	if got := r.Put(i, key); got != want {
		t.Errorf("Put(%d, %q) = %v, want %v", i, key, got, want)
	}
}

// checkGet checks what Get and Free answer.
func checkGet(t *testing.T, r *keyring.Ring, i int, key string, want api.Errno) {
	t.Helper()
	if got, e := r.Get(i); got != key || e != want {
		t.Errorf("Get(%d) = %q, %v, want %q, %v", i, got, e, key, want)
	}
	if got := r.Free(i); got != (want == api.ErrNone) {
		t.Errorf("Free(%d) = %v, want %v", i, got, !got)
	}
}

// checkFind checks what Find answers.
func checkFind(t *testing.T, r *keyring.Ring, want int, e api.Errno) {
	t.Helper()
	if got, ge := r.Find(); got != want || ge != e {
		t.Errorf("Find = %d, %v, want %d, %v", got, ge, want, e)
	}
}

// checkShred checks what Shred answers.
func checkShred(t *testing.T, r *keyring.Ring, i int, want api.Errno) {
	t.Helper()
	if got := r.Shred(i); got != want {
		t.Errorf("Shred(%d) = %v, want %v", i, got, want)
	}
}

// checkKeep checks what Keep answers.
func checkKeep(t *testing.T, r *keyring.Ring, used []int, want int, e api.Errno) {
	t.Helper()
	if got, ge := r.Keep(used); got != want || ge != e {
		t.Errorf("Keep(%v) = %d, %v, want %d, %v", used, got, ge, want, e)
	}
}

// checkShreds checks what Shreds answers.
func checkShreds(t *testing.T, r *keyring.Ring, want int) {
	t.Helper()
	if got := r.Shreds(); got != want {
		t.Errorf("Shreds = %d, want %d", got, want)
	}
}

// checkActs checks how many acts a disk had.
func checkActs(t *testing.T, d *disk.Disk, want int) {
	t.Helper()
	if d.Acts() != want {
		t.Errorf("%d acts, want %d", d.Acts(), want)
	}
}

// durable is sector i of a disk, as it is durable.
func durable(d *disk.Disk, i int) string {
	return d.Image()[i*64 : i*64+64]
}

// outside are indices that a ring of so many slots does not have.
func outside(slots int) []int {
	return []int{-1, -2, math.MinInt, slots, slots + 1, api.MaxPapers, math.MaxInt}
}

// oddRing is a ring of the slots 0 to 6 in the sectors from 2 on. Slot 0 has a key, 1 is free, 2 to 4 have other data, 5 is torn, and 6 is zero but for its last byte.
func oddRing(t *testing.T) (*disk.Disk, *keyring.Ring) {
	t.Helper()
	d := newDisk(t, 10)
	g := newGuard(t, d, 1)
	g.Put(2, keyOf(1))
	g.Put(4, "")
	g.Put(5, keyOf(2)[:31])
	g.Put(6, keyOf(2)+"x")
	g.Put(7, keyOf(3))
	d.Crash(disk.Fall{Keep: 15, Tear: 4*64 + 50})
	d.Start()
	d.Write(8, zeros[:63]+"\x01")
	d.Flush()
	return d, newRing(t, newGuard(t, d, 2), 2, 7)
}

// oddErrors is what Get returns for the slots of oddRing.
var oddErrors = []api.Errno{api.OK, api.ErrNone, api.ErrTorn, api.ErrTorn, api.ErrTorn, api.ErrTorn, api.ErrTorn}

// Promise 13.1: a ring of any number of slots, wherever it lies; nothing is written.
func TestNew(t *testing.T) {
	for _, n := range []int{1, 2, 64, 65, 600, api.MaxSectors} {
		d := newDisk(t, n)
		g := newGuard(t, d, 1)
		for slots := 1; slots <= min(n, 64); slots++ {
			for _, base := range []int{0, (n - slots) / 2, n - slots} {
				r := newRing(t, g, base, slots)
				if r.Slots() != slots {
					t.Errorf("Slots = %d, want %d", r.Slots(), slots)
				}
				checkFind(t, r, 0, api.OK)
				checkGet(t, r, 0, "", api.ErrNone)
				checkGet(t, r, slots-1, "", api.ErrNone)
				checkShreds(t, r, 0)
			}
		}
		checkActs(t, d, 0)
	}
}

// Promise 13.1: New leaves what is there, whoever wrote it, and needs no power.
func TestNewOfWhatIsThere(t *testing.T) {
	d, r := oddRing(t)
	checkPut(t, r, 1, keyOf(9), api.OK)
	was, acts := d.Image(), d.Acts()
	d.Crash(disk.Fall{})
	r = newRing(t, newGuard(t, d, 3), 2, 7)
	if r.Slots() != 7 {
		t.Errorf("Slots = %d", r.Slots())
	}
	d.Start()
	checkGet(t, r, 0, keyOf(1), api.OK)
	checkGet(t, r, 1, keyOf(9), api.OK)
	checkGet(t, r, 5, "", api.ErrTorn)
	checkFind(t, r, 0, api.ErrFull)
	r = newRing(t, newGuard(t, d, 4), 3, 1)
	checkGet(t, r, 0, keyOf(9), api.OK)
	checkActs(t, d, acts)
	if d.Image() != was {
		t.Error("New has written")
	}
}

// Promise 13.1, rule R2: ErrArg comes before ErrRange.
func TestNewOfWrongArguments(t *testing.T) {
	refuse := func(g *guard.Guard, base, slots int, want api.Errno) {
		t.Helper()
		if r, e := keyring.New(g, base, slots); r != nil || e != want {
			t.Errorf("New(.., %d, %d) = %v, %v, want %v", base, slots, r, e, want)
		}
	}
	d := newDisk(t, 100)
	g := newGuard(t, d, 1)
	for range 2 {
		for _, slots := range []int{0, -1, math.MinInt, 65, 66, 100, 101, math.MaxInt} {
			for _, base := range []int{0, 1, 36, 99, 100, 101, -1, math.MaxInt, math.MinInt} {
				refuse(g, base, slots, api.ErrArg)
			}
		}
		for _, base := range []int{-1, -2, -64, math.MinInt, math.MinInt + 64} {
			refuse(g, base, 1, api.ErrArg)
			refuse(g, base, 64, api.ErrArg)
		}
		for _, out := range [][2]int{{100, 1}, {99, 2}, {37, 64}, {101, 1}, {1000, 64}, {math.MaxInt, 1}, {math.MaxInt, 64}, {math.MaxInt - 63, 64}} {
			refuse(g, out[0], out[1], api.ErrRange)
		}
		newRing(t, g, 36, 64)
		newRing(t, g, 99, 1)
		d.Crash(disk.Fall{})
	}
	refuse(newGuard(t, newDisk(t, 1), 1), 0, 2, api.ErrRange)
	refuse(newGuard(t, newDisk(t, 63), 1), 0, 64, api.ErrRange)
	for _, none := range []*guard.Guard{nil, {}} {
		refuse(none, 0, 1, api.ErrArg)
		refuse(none, 0, 64, api.ErrArg)
		refuse(none, -1, 65, api.ErrArg)
		refuse(none, math.MaxInt, 64, api.ErrArg)
	}
}

// Promise 13.1: a slot is free if all its bytes are zero as they were written last; a slot that does not exist is not, even if there is such a sector.
func TestFree(t *testing.T) {
	d, r := oddRing(t)
	for i, e := range oddErrors {
		if r.Free(i) != (e == api.ErrNone) {
			t.Errorf("Free(%d) = %v", i, r.Free(i))
		}
	}
	for _, i := range append(outside(7), -2, 7) {
		if r.Free(i) {
			t.Errorf("Free(%d)", i)
		}
	}
	d.Write(4, zeros)
	checkGet(t, r, 2, "", api.ErrNone)
	d.Write(3, zeros[:20]+"x"+zeros[:43])
	checkGet(t, r, 1, "", api.ErrTorn)
	acts := d.Acts()
	d.Crash(disk.Fall{})
	for i := range 7 {
		checkGet(t, r, i, "", api.ErrDown)
	}
	d.Start()
	checkGet(t, r, 1, "", api.ErrNone)
	checkGet(t, r, 2, "", api.ErrTorn)
	checkActs(t, d, acts)
}

// Promise 13.1: the first free slot, whatever those before it contain.
func TestFind(t *testing.T) {
	d, r := oddRing(t)
	checkFind(t, r, 1, api.OK)
	checkPut(t, r, 1, keyOf(1), api.OK)
	checkFind(t, r, 0, api.ErrFull)
	for _, i := range []int{6, 5, 3, 0} {
		checkShred(t, r, i, api.OK)
		checkFind(t, r, i, api.OK)
	}
	acts := d.Acts()
	for range 3 {
		checkFind(t, r, 0, api.OK)
	}
	checkActs(t, d, acts)
	d.Crash(disk.Fall{})
	checkFind(t, r, 0, api.ErrFull)
	d.Start()
	checkFind(t, r, 0, api.OK)

	r = newRing(t, newGuard(t, newDisk(t, 66), 1), 1, 64)
	for i := range 64 {
		checkFind(t, r, i, api.OK)
		checkPut(t, r, i, keyOf(i), api.OK)
	}
	checkFind(t, r, 0, api.ErrFull)
	checkShred(t, r, 63, api.OK)
	checkFind(t, r, 63, api.OK)
	checkShred(t, r, 40, api.OK)
	checkFind(t, r, 40, api.OK)
}

// Promise 13.2: any key in any slot; it is durable at once, with two acts, as a guarded sector, and the other sectors stay as they are.
func TestPut(t *testing.T) {
	for _, slots := range []int{1, 2, 5, 64} {
		d := newDisk(t, slots+3)
		g := newGuard(t, d, 7)
		r := newRing(t, g, 2, slots)
		for k := range slots {
			i := slots - 1 - k
			checkPut(t, r, i, keyOf(i), api.OK)
			checkActs(t, d, 2*k+2)
			want := guard.Eight(7<<32+k+1) + "\x20" + keyOf(i) + strings.Repeat("\x00", 15) + guard.Eight(7<<32+k+1)
			if durable(d, i+2) != want {
				t.Errorf("sector %d = %q, want %q", i+2, durable(d, i+2), want)
			}
			for j := range slots {
				if j >= i {
					checkGet(t, r, j, keyOf(j), api.OK)
				} else {
					checkGet(t, r, j, "", api.ErrNone)
				}
			}
		}
		if durable(d, 0)+durable(d, 1)+durable(d, slots+2) != zeros+zeros+zeros {
			t.Error("Put has written outside of the ring")
		}
		checkActs(t, d, 2*slots)
		checkShreds(t, r, 0)
	}
}

// Promise 13.2: two slots may have the same key, and a slot can be used again.
func TestPutAgain(t *testing.T) {
	_, r := oddRing(t)
	for n := range 300 {
		checkPut(t, r, 1, keyOf(n), api.OK)
		checkGet(t, r, 1, keyOf(n), api.OK)
		checkPut(t, r, 1, keyOf(n+1), api.ErrThere)
		checkShred(t, r, 1, api.OK)
	}
	checkPut(t, r, 1, keyOf(1), api.OK)
	checkGet(t, r, 0, keyOf(1), api.OK)
	checkGet(t, r, 1, keyOf(1), api.OK)
}

// Promise 13.2, rule R2: the errors in their order, each of which changes nothing.
func TestPutOfWrongArguments(t *testing.T) {
	d, r := oddRing(t)
	was, acts := d.Image(), d.Acts()
	short := []string{"", "short", keyOf(1)[:31], keyOf(1) + "x", strings.Repeat("k", 47), strings.Repeat("k", 48), strings.Repeat("k", 64), strings.Repeat("k", 6001)}
	for _, down := range []bool{false, true} {
		for _, i := range outside(7) {
			checkPut(t, r, i, keyOf(1), api.ErrRange)
			checkPut(t, r, i, "short", api.ErrRange)
		}
		for _, key := range short {
			for i := range 7 {
				checkPut(t, r, i, key, api.ErrArg)
			}
		}
		for i, e := range oddErrors {
			switch {
			case down:
				checkPut(t, r, i, keyOf(1), api.ErrDown)
			case e != api.ErrNone:
				checkPut(t, r, i, keyOf(1), api.ErrThere)
			}
		}
		d.Crash(disk.Fall{})
	}
	d.Start()
	checkActs(t, d, acts)
	if d.Image() != was {
		t.Error("a Put that was refused has written")
	}
	for i, e := range oddErrors[1:] {
		checkGet(t, r, i+1, "", e)
	}
	checkPut(t, r, 1, keyOf(1), api.OK)
}

// Promise 13.2: a Put makes durable whatever is pending.
func TestPutFlushes(t *testing.T) {
	d, r := oddRing(t)
	other := strings.Repeat("x", 64)
	d.Write(0, other)
	checkPut(t, r, 1, keyOf(4), api.OK)
	d.Crash(disk.Fall{Tear: -1})
	if durable(d, 0) != other {
		t.Error("Put has not flushed")
	}
	d.Start()
	checkGet(t, r, 1, keyOf(4), api.OK)
}

// Promise 13.2, rule R2: the errors of Get in their order.
func TestGet(t *testing.T) {
	d, r := oddRing(t)
	acts := d.Acts()
	for _, down := range []bool{false, true} {
		for _, i := range outside(7) {
			checkGet(t, r, i, "", api.ErrRange)
		}
		for i, e := range oddErrors {
			switch {
			case down:
				checkGet(t, r, i, "", api.ErrDown)
			case e == api.OK:
				checkGet(t, r, i, keyOf(1), e)
			default:
				checkGet(t, r, i, "", e)
			}
		}
		d.Crash(disk.Fall{})
	}
	d.Start()
	checkActs(t, d, acts)
	checkGet(t, r, 0, keyOf(1), api.OK)
}

// Promise 13.2: data of any length that a guarded sector can have are a key only if they are 32 bytes.
func TestGetOfAnyLength(t *testing.T) {
	d := newDisk(t, 1)
	g := newGuard(t, d, 1)
	r := newRing(t, g, 0, 1)
	for n := range 48 {
		data := strings.Repeat("d", n)
		g.Put(0, data)
		if n == 32 {
			checkGet(t, r, 0, data, api.OK)
		} else {
			checkGet(t, r, 0, "", api.ErrTorn)
		}
	}
}

// Promise 13.2: what another ring of the same sectors did is there.
func TestRingsOfTheSameSectors(t *testing.T) {
	d := newDisk(t, 6)
	a := newRing(t, newGuard(t, d, 1), 0, 4)
	b := newRing(t, newGuard(t, d, 2), 2, 4)
	checkPut(t, a, 3, keyOf(1), api.OK)
	checkGet(t, b, 1, keyOf(1), api.OK)
	checkPut(t, b, 1, keyOf(2), api.ErrThere)
	checkPut(t, b, 0, keyOf(2), api.OK)
	checkPut(t, a, 2, keyOf(3), api.ErrThere)
	checkShred(t, b, 1, api.OK)
	checkGet(t, a, 3, "", api.ErrNone)
	checkShred(t, a, 3, api.OK)
	checkShreds(t, a, 0)
	checkShreds(t, b, 1)
}

// Promise 13.4.
func TestNoRing(t *testing.T) {
	refused, _ := keyring.New(nil, 0, 1)
	for what, r := range map[string]*keyring.Ring{"nil": nil, "zero": {}, "refused": refused} {
		for _, i := range []int{0, 1, -1, 63, 64, math.MaxInt} {
			checkGet(t, r, i, "", api.ErrState)
			checkPut(t, r, i, keyOf(1), api.ErrState)
			checkPut(t, r, i, "short", api.ErrState)
			checkShred(t, r, i, api.ErrState)
			checkKeep(t, r, []int{i}, 0, api.ErrState)
		}
		checkKeep(t, r, nil, 0, api.ErrState)
		checkFind(t, r, 0, api.ErrState)
		checkShreds(t, r, 0)
		if r.Slots() != 0 {
			t.Errorf("%s: Slots = %d", what, r.Slots())
		}
	}
}

// The chapter's examples.
func TestExamples(t *testing.T) {
	d := newDisk(t, 10)
	g := newGuard(t, d, 1)
	r := newRing(t, g, 2, 3)
	checkPut(t, r, 0, keyOf(1), api.OK)
	checkShred(t, r, 0, api.OK)
	checkGet(t, r, 0, "", api.ErrNone)

	checkPut(t, r, 0, keyOf(1), api.OK)
	checkPut(t, r, 0, keyOf(1), api.ErrThere)
	checkPut(t, r, 1, "short", api.ErrArg)
	checkPut(t, r, 3, keyOf(1), api.ErrRange)
	checkFind(t, r, 1, api.OK)
	checkPut(t, r, 1, keyOf(2), api.OK)
	checkPut(t, r, 2, keyOf(3), api.OK)
	checkFind(t, r, 0, api.ErrFull)
	checkKeep(t, r, []int{1}, 2, api.OK)
	checkGet(t, r, 1, keyOf(2), api.OK)
	checkShreds(t, r, 3)
}
