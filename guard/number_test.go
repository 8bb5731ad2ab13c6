package guard_test

import (
	"math"
	"math/big"
	"strings"
	"testing"

	"chartulary/guard"
)

// bytesOfNumber is n modulo 2^64 as eight bytes, by Go's library.
func bytesOfNumber(n int) string {
	b := big.NewInt(int64(n))
	if n < 0 {
		b.Add(b, new(big.Int).Lsh(big.NewInt(1), 64))
	}
	return string(b.FillBytes(make([]byte, 8)))
}

// numberOf is the number with the bytes s modulo 2^64, by Go's library.
func numberOf(s string) int {
	b := new(big.Int).SetBytes([]byte(s))
	b.And(b, new(big.Int).SetUint64(math.MaxUint64))
	return int(b.Uint64())
}

// numbers are numbers at the edges of all bytes, and their negatives.
func numbers() []int {
	l := []int{0, 258, 0x0102030405060708, math.MaxInt, math.MinInt, math.MinInt + 1}
	for i := range 63 {
		l = append(l, 1<<i, 1<<i-1, 1<<i+1, -1<<i, -1<<i-1, -1<<i+1)
	}
	return l
}

// Promise 10.3.
func TestEightAndNumber(t *testing.T) {
	for _, n := range numbers() {
		s := guard.Eight(n)
		if s != bytesOfNumber(n) {
			t.Errorf("Eight(%d) = %q, want %q", n, s, bytesOfNumber(n))
		}
		if got := guard.Number(s); got != n {
			t.Errorf("Number(%q) = %d, want %d", s, got, n)
		}
	}
}

// Promise 10.3: strings of any length.
func TestNumber(t *testing.T) {
	for s, want := range map[string]int{
		"": 0, "\x00": 0, "\x01": 1, "\xff": 255, "\x00\x01": 1, "\x01\x02": 258, "\xff\xff": 65535,
		"\x7f\xff\xff\xff\xff\xff\xff\xff":             math.MaxInt,
		"\x80\x00\x00\x00\x00\x00\x00\x00":             math.MinInt,
		"\xff\xff\xff\xff\xff\xff\xff\xff":             -1,
		"\xff\xff\xff\xff\xff\xff\xff\xfb":             -5,
		"\xff\xff\xff\xff\xff\xff\xff":                 1<<56 - 1,
		"\x01\x00\x00\x00\x00\x00\x00\x00\x00":         0,
		"\x05\x01\x02\x03\x04\x05\x06\x07\x08":         0x0102030405060708,
		"\xff\x00\x00\x00\x00\x00\x00\x00\x00\x00\x07": 7,
		strings.Repeat("\xff", 1000):                   -1,
		strings.Repeat("\xff", 1000) + "\x02":          -254,
	} {
		if got := guard.Number(s); got != want || got != numberOf(s) {
			t.Errorf("Number(%.20q) = %d, want %d", s, got, want)
		}
	}
	s := ""
	for n := range 40 {
		if got := guard.Number(s); got != numberOf(s) {
			t.Errorf("Number(%q) = %d, want %d", s, got, numberOf(s))
		}
		s += string([]byte{byte(n*91 + 130)})
	}
}

// Promise 10.3, the chapter's third example.
func TestNumberExamples(t *testing.T) {
	if got := guard.Eight(258); got != "\x00\x00\x00\x00\x00\x00\x01\x02" {
		t.Errorf("Eight(258) = %q", got)
	}
	if got := guard.Number(guard.Eight(-5)); got != -5 {
		t.Errorf("Number(Eight(-5)) = %d", got)
	}
}
