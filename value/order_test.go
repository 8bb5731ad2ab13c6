package value_test

import (
	"cmp"
	"math"
	"strings"
	"testing"

	"chartulary/api"
	"chartulary/value"
)

// compares checks how two values compare, and the two turned round.
func compares(t *testing.T, a, b api.Value, want int) {
	t.Helper()
	if got := value.Compare(a, b); got != want {
		t.Errorf("Compare(%+v, %+v) = %d, want %d", a, b, got, want)
	}
	if got := value.Compare(b, a); got != -want {
		t.Errorf("Compare(%+v, %+v) = %d, want %d", b, a, got, -want)
	}
}

// Promises 4.3 and 4.4: the order is total, and only equal values are at the same place in it, and have the same encoding.
func TestCompare(t *testing.T) {
	l := inOrder()
	for i, a := range l {
		for j, b := range l {
			compares(t, a, b, cmp.Compare(i, j))
			if same := value.Bytes(a) == value.Bytes(b); same != (i == j) || same != (a == b) {
				t.Errorf("%+v and %+v have the same encoding: %v", a, b, same)
			}
		}
	}
}

// Promise 4.3, the chapter's example.
func TestCompareFloats(t *testing.T) {
	compares(t, value.Of(math.Inf(1)), value.Of(math.NaN()), -1)
	compares(t, value.Of(negativeZero), value.Of(0), -1)
	for _, b := range strangeBits() {
		compares(t, bits(b), float(math.Inf(1)), 1)
		compares(t, bits(b), float(math.Inf(-1)), 1)
		compares(t, bits(b), bits(noNumber), 0)
		compares(t, bits(b), text(""), -1)
	}
}

// floats are pseudo-random ones, of all sizes.
func floats(n int) []float64 {
	l := make([]float64, n)
	x := uint64(0x9e3779b97f4a7c15)
	for i := range l {
		x ^= x << 13
		x ^= x >> 7
		x ^= x << 17
		l[i] = math.Float64frombits(x)
	}
	return l
}

// Promise 4.3: floats are in the order of numbers.
func TestCompareAsNumbers(t *testing.T) {
	l := floats(500)
	for _, f := range l {
		for _, g := range l {
			if f == f && g == g {
				compares(t, value.Of(f), value.Of(g), cmp.Compare(f, g))
			}
		}
	}
}

// Promise 4.3: what a kind does not use is ignored, and there is an order of kinds that there are not.
func TestCompareInvalid(t *testing.T) {
	for _, v := range inOrder() {
		for _, a := range dirty(v) {
			compares(t, a, v, 0)
			for _, b := range dirty(v) {
				compares(t, a, b, 0)
			}
		}
		for _, kind := range unknown() {
			compares(t, api.Value{Kind: kind, Flag: true, Int: 1, Bits: 1, Text: "a"}, v, cmp.Compare(kind, 0))
		}
	}
	for _, k := range unknown() {
		for _, l := range unknown() {
			compares(t, api.Value{Kind: k, Int: 1, Text: "b"}, api.Value{Kind: l, Flag: true, Bits: 2, Text: "a"}, cmp.Compare(k, l))
		}
	}
	long := strings.Repeat("a", 300)
	compares(t, text(long), text(long[:299]), 1)
	compares(t, text(long), text(long[:299]+"b"), -1)
	compares(t, text(long), text(long), 0)
}

// isWorth checks whether two values are equal as numbers, either way round.
func isWorth(t *testing.T, a, b api.Value, want bool) {
	t.Helper()
	if value.Worth(a, b) != want || value.Worth(b, a) != want {
		t.Errorf("Worth(%+v, %+v) is not %v", a, b, want)
	}
}

// Promise 4.3.
func TestWorth(t *testing.T) {
	zero := func(v api.Value) bool { return v == float(0) || v == float(negativeZero) }
	l := inOrder()
	for _, a := range l {
		for _, b := range l {
			isWorth(t, a, b, a.Kind == api.Float && a != bits(noNumber) && a == b || zero(a) && zero(b))
		}
	}
	isWorth(t, value.Of(negativeZero), value.Of(0), true)
	isWorth(t, value.Of(math.NaN()), value.Of(math.NaN()), false)
	isWorth(t, float(1), whole(1), false)
	for _, v := range invalid() {
		isWorth(t, v, v, false)
		isWorth(t, v, value.Clean(v), false)
	}
}

// isWhole checks that v is the integer want, or none.
func isWhole(t *testing.T, v api.Value, want int64, is bool) {
	t.Helper()
	if n, ok := value.Whole(v); n != want || ok != is {
		t.Errorf("Whole(%+v) = %d, %v, want %d, %v", v, n, ok, want, is)
	}
}

// Promise 4.3.
func TestWholeFloats(t *testing.T) {
	for _, c := range []struct {
		f    float64
		want int64
		is   bool
	}{
		{0, 0, true}, {negativeZero, 0, true}, {1, 1, true}, {-1, -1, true}, {-3, -3, true}, {1e15, 1000000000000000, true},
		{1 << 53, 1 << 53, true}, {behind(1 << 53), 1<<53 + 2, true}, {-1 << 62, -1 << 62, true},
		{2.5, 0, false}, {-2.5, 0, false}, {0.5, 0, false}, {before(1), 0, false}, {behind(1), 0, false}, {behind(-1), 0, false},
		{1<<52 - 0.5, 0, false}, {1<<51 + 0.5, 0, false},
		{math.SmallestNonzeroFloat64, 0, false}, {-math.SmallestNonzeroFloat64, 0, false},
		{-1 << 63, math.MinInt64, true}, {behind(-1 << 63), math.MinInt64 + 1024, true}, {before(-1 << 63), 0, false},
		{before(1 << 63), math.MaxInt64 - 1023, true}, {1 << 63, 0, false}, {behind(1 << 63), 0, false},
		{1 << 64, 0, false}, {-1 << 64, 0, false}, {1e300, 0, false}, {math.MaxFloat64, 0, false}, {-math.MaxFloat64, 0, false},
		{math.Inf(1), 0, false}, {math.Inf(-1), 0, false}, {math.NaN(), 0, false},
	} {
		isWhole(t, value.Of(c.f), c.want, c.is)
	}
}

// Promise 4.3.
func TestWhole(t *testing.T) {
	for _, v := range inOrder() {
		switch v.Kind {
		case api.Int:
			isWhole(t, v, v.Int, true)
		case api.Float:
		default:
			isWhole(t, v, 0, false)
		}
	}
	isWhole(t, text("5"), 0, false)
	for _, v := range invalid() {
		isWhole(t, v, 0, false)
	}
	for _, kind := range unknown() {
		isWhole(t, api.Value{Kind: kind, Int: 5}, 0, false)
		isWhole(t, api.Value{Kind: kind, Bits: math.Float64bits(5)}, 0, false)
	}
}
