package octet_test

import (
	"math"
	"strings"
	"testing"

	"chartulary/octet"
)

// numbers: those at which the encoding changes, with what they are encoded as.
var numbers = []struct {
	n    int
	want string
}{
	{0, "\x00"},
	{1, "\x01\x01"},
	{5, "\x01\x05"},
	{255, "\x01\xff"},
	{256, "\x02\x01\x00"},
	{258, "\x02\x01\x02"},
	{1<<16 - 1, "\x02\xff\xff"},
	{1 << 16, "\x03\x01\x00\x00"},
	{1<<24 - 1, "\x03\xff\xff\xff"},
	{1 << 24, "\x04\x01\x00\x00\x00"},
	{1<<32 - 1, "\x04\xff\xff\xff\xff"},
	{1 << 32, "\x05\x01\x00\x00\x00\x00"},
	{1<<40 - 1, "\x05\xff\xff\xff\xff\xff"},
	{1 << 40, "\x06\x01\x00\x00\x00\x00\x00"},
	{1<<48 - 1, "\x06\xff\xff\xff\xff\xff\xff"},
	{1 << 48, "\x07\x01\x00\x00\x00\x00\x00\x00"},
	{0x0123456789abcd, "\x07\x01\x23\x45\x67\x89\xab\xcd"},
	{1<<56 - 1, "\x07\xff\xff\xff\xff\xff\xff\xff"},
}

// unwritable: numbers without an encoding.
var unwritable = []int{-1, -2, -255, -256, math.MinInt, 1 << 56, 1<<56 + 1, 1 << 57, 1<<62 + 5, math.MaxInt}

// Promise 1.1.
func TestNum(t *testing.T) {
	for _, c := range numbers {
		if got := octet.Num(c.n); got != c.want {
			t.Errorf("Num(%d) = %q, want %q", c.n, got, c.want)
		}
	}
	for _, n := range unwritable {
		if got := octet.Num(n); got != "" {
			t.Errorf("Num(%d) = %q, want nothing", n, got)
		}
	}
}

// Promise 1.1.
func TestText(t *testing.T) {
	a255, a256, a65536 := strings.Repeat("a", 255), strings.Repeat("a", 256), strings.Repeat("a", 65536)
	for _, c := range []struct{ s, want string }{
		{"", "\x00"},
		{"ab", "\x01\x02ab"},
		{"\x00", "\x01\x01\x00"},
		{"\xff\xfe\x00é", "\x01\x05\xff\xfe\x00\xc3\xa9"},
		{a255, "\x01\xff" + a255},
		{a256, "\x02\x01\x00" + a256},
		{a65536, "\x03\x01\x00\x00" + a65536},
	} {
		if got := octet.Text(c.s); got != c.want {
			t.Errorf("Text of %d bytes: got %.20q, want %.20q", len(c.s), got, c.want)
		}
	}
}
