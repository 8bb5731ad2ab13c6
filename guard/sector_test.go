package guard_test

import (
	"math"
	"strings"
	"testing"

	"chartulary/api"
	"chartulary/disk"
	"chartulary/guard"
)

// checkBytes checks what is read of a sector with these 64 bytes.
func checkBytes(t *testing.T, what, bytes, s string, stamp int, e api.Errno) {
	t.Helper()
	d := newDisk(t, 2)
	check(t, what+": Write", d.Write(1, bytes), api.OK)
	if got, n, ge := guard.Read(d, 1); got != s || n != stamp || ge != e {
		t.Errorf("%s: Read of %q = %q, %d, %v, want %q, %d, %v", what, bytes, got, n, ge, s, stamp, e)
	}
	g := newGuard(t, d, 1)
	checkGet(t, g, 1, s, stamp, e)
	checkActs(t, d, 1)
}

// changed is s with another byte at one place.
func changed(s string, at int, b byte) string {
	return s[:at] + string([]byte{b}) + s[at+1:]
}

// Promise 10.2: only zero bytes are nothing, and one other byte is torn.
func TestReadOfZeros(t *testing.T) {
	checkBytes(t, "zeros", zeros, "", 0, api.ErrNone)
	for at := range 64 {
		for _, b := range []byte{1, 0x20, 0x80, 0xff} {
			checkBytes(t, "one byte", changed(zeros, at, b), "", 0, api.ErrTorn)
		}
	}
}

// Promise 10.2: the least and the greatest stamps that are read, and those beyond them.
func TestReadOfStamps(t *testing.T) {
	for _, stamp := range []int{stampOf(1, 0), stampOf(1, 1), stampOf(1, 1<<32-1), stampOf(2, 0), stampOf(1<<24, 1), stampOf(guard.MaxBoot, 1), math.MaxInt} {
		checkBytes(t, "stamp", bytesOf(stamp, "data"), "data", stamp, api.OK)
		checkBytes(t, "stamp without data", bytesOf(stamp, ""), "", stamp, api.OK)
	}
	for _, stamp := range []int{0, 1, 255, 1 << 31, 1<<32 - 1, -1, math.MinInt, math.MinInt + 1, -1 << 32, -1<<32 + 1} {
		checkBytes(t, "no stamp", bytesOf(stamp, "data"), "", 0, api.ErrTorn)
	}
	checkBytes(t, "no stamp, no data", bytesOf(1, ""), "", 0, api.ErrTorn)
	checkBytes(t, "no stamp, only zeros", bytesOf(0, ""), "", 0, api.ErrNone)
}

// Promise 10.2: both stamps have to be the same in every byte.
func TestReadOfOtherStamps(t *testing.T) {
	whole := bytesOf(0x0102030405060708, "data")
	checkBytes(t, "whole", whole, "data", 0x0102030405060708, api.OK)
	for at := range 64 {
		if at >= 8 && at < 56 {
			continue
		}
		for _, bit := range []byte{1, 0x10, 0x80, 0xff} {
			checkBytes(t, "one stamp changed", changed(whole, at, whole[at]^bit), "", 0, api.ErrTorn)
		}
	}
	for i := range 8 {
		b := whole[i] ^ 0x10
		both := changed(changed(whole, i, b), 56+i, b)
		checkBytes(t, "both stamps changed", both, "data", guard.Number(both[:8]), api.OK)
	}
}

// Promise 10.2: the number of data bytes is at most 47, and what stands behind them is zero.
func TestReadOfLengths(t *testing.T) {
	stamp := stampOf(3, 9)
	empty := bytesOf(stamp, "")
	full := bytesOf(stamp, strings.Repeat("f", 47))
	for n := range 256 {
		if n <= 47 {
			checkBytes(t, "zero bytes", changed(empty, 8, byte(n)), strings.Repeat("\x00", n), stamp, api.OK)
		} else {
			checkBytes(t, "too many zero bytes", changed(empty, 8, byte(n)), "", 0, api.ErrTorn)
		}
		if n == 47 {
			checkBytes(t, "full", full, strings.Repeat("f", 47), stamp, api.OK)
		} else {
			checkBytes(t, "full, with another number", changed(full, 8, byte(n)), "", 0, api.ErrTorn)
		}
	}
	for n := range 48 {
		s := strings.Repeat("d", n)
		checkBytes(t, "data", bytesOf(stamp, s), s, stamp, api.OK)
		for at := 9 + n; at < 56; at++ {
			for _, b := range []byte{1, 0x20, 0x80, 0xff} {
				checkBytes(t, "a byte behind the data", changed(bytesOf(stamp, s), at, b), "", 0, api.ErrTorn)
			}
		}
	}
}

// Promise 10.2: every byte of the data is read as it is.
func TestReadOfData(t *testing.T) {
	stamp := stampOf(1, 1)
	data := strings.Repeat("d", 47)
	for at := range 47 {
		for _, b := range []byte{0, 1, 0x20, 0x80, 0xff} {
			s := changed(data, at, b)
			checkBytes(t, "data", bytesOf(stamp, s), s, stamp, api.OK)
		}
	}
}

// Promise 10.2: the errors of the disk.
func TestReadErrors(t *testing.T) {
	refused, _ := disk.New(0)
	for _, i := range []int{0, 1, 2, -1, math.MaxInt, math.MinInt} {
		checkRead(t, nil, i, "", 0, api.ErrState)
		checkRead(t, &disk.Disk{}, i, "", 0, api.ErrState)
		checkRead(t, refused, i, "", 0, api.ErrState)
	}
	d := newDisk(t, 2)
	d.Write(1, bytesOf(stampOf(1, 1), "data"))
	d.Flush()
	for _, i := range []int{2, 3, -1, math.MaxInt, math.MinInt} {
		checkRead(t, d, i, "", 0, api.ErrRange)
	}
	d.Crash(disk.Fall{})
	for _, i := range []int{0, 1, 2, -1, math.MaxInt, math.MinInt} {
		checkRead(t, d, i, "", 0, api.ErrDown)
	}
	d.Start()
	checkRead(t, d, 0, "", 0, api.ErrNone)
	checkRead(t, d, 1, "data", stampOf(1, 1), api.OK)
}
