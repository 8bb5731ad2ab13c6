package value

import (
	"cmp"
	"math"

	"chartulary/api"
)

// Compare is -1, 0 or 1, if a is before b, at the same place, or after it. What a kind does not use has no part in it.
func Compare(a, b api.Value) int {
	if a.Kind != b.Kind {
		return cmp.Compare(a.Kind, b.Kind)
	}
	switch a.Kind {
	case api.Bool:
		return cmp.Compare(flagRank(a.Flag), flagRank(b.Flag))
	case api.Int:
		return cmp.Compare(a.Int, b.Int)
	case api.Float:
		return cmp.Compare(floatRank(a.Bits), floatRank(b.Bits))
	case api.Text:
		return cmp.Compare(a.Text, b.Text)
	}
	return 0
}

// flagRank is a boolean's place among booleans.
func flagRank(is bool) int {
	if is {
		return 1
	}
	return 0
}

// floatRank is a float's place among floats. Read as whole numbers, the bits of those without a sign are in order already, and those with one in the opposite order.
func floatRank(bits uint64) uint64 {
	bits = cleanBits(bits)
	if bits&signBit != 0 {
		return ^bits
	}
	return bits | signBit
}

// Worth tells whether both are valid floats that are equal as numbers.
func Worth(a, b api.Value) bool {
	f, isFloat := Float(a)
	g, isToo := Float(b)
	return isFloat && isToo && f == g
}

// Whole is the integer that a valid Int or Float is; false: it is none.
func Whole(v api.Value) (int64, bool) {
	if v.Kind == api.Int && Right(v) {
		return v.Int, true
	}
	f, isFloat := Float(v)
	if !isFloat || f != math.Trunc(f) || f < -1<<63 || f >= 1<<63 {
		return 0, false
	}
	return int64(f), true
}
