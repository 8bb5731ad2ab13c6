package value_test

import (
	"math"
	"strings"
	"testing"

	"chartulary/api"
	"chartulary/value"
)

// noNumber are the bits that Of gives to whatever is no number.
const noNumber = 0x7ff8000000000001

func null() api.Value           { return api.Value{} }
func flag(is bool) api.Value    { return api.Value{Kind: api.Bool, Flag: is} }
func whole(n int64) api.Value   { return api.Value{Kind: api.Int, Int: n} }
func bits(b uint64) api.Value   { return api.Value{Kind: api.Float, Bits: b} }
func float(f float64) api.Value { return bits(math.Float64bits(f)) }
func text(s string) api.Value   { return api.Value{Kind: api.Text, Text: s} }

// before is the float just below f, and behind the one just above it.
func before(f float64) float64 { return math.Nextafter(f, math.Inf(-1)) }
func behind(f float64) float64 { return math.Nextafter(f, math.Inf(1)) }

// negativeZero is -0, which no constant is.
var negativeZero = math.Copysign(0, -1)

// inOrder are valid values, each before the next.
func inOrder() []api.Value {
	return []api.Value{
		null(),
		flag(false), flag(true),
		whole(math.MinInt64), whole(math.MinInt64 + 1), whole(math.MinInt32), whole(-256), whole(-255), whole(-1), whole(0),
		whole(1), whole(255), whole(256), whole(math.MaxInt32), whole(math.MaxInt64 - 1), whole(math.MaxInt64),
		float(math.Inf(-1)), float(-math.MaxFloat64), float(before(-1 << 63)), float(-1 << 63), float(behind(-1 << 63)), float(-3), float(-2.5), float(-1),
		float(-0x1p-1022), float(-math.SmallestNonzeroFloat64), float(negativeZero), float(0), float(math.SmallestNonzeroFloat64), float(0x1p-1022),
		float(0.1), float(before(1)), float(1), float(behind(1)), float(2), float(2.5), float(1 << 53), float(before(1 << 63)), float(1 << 63), float(math.MaxFloat64), float(math.Inf(1)), bits(noNumber),
		text(""), text("\x00"), text("\x00\x00"), text("A"), text("a"), text("a\x00"), text("aa"), text("aaa"), text("ab"), text("b"),
		text("\x7f"), text("\x80"), text("\xc3\xa9"), text("\xff"), text("\xff\x00"), text(strings.Repeat("\xff", 199)), text(strings.Repeat("\xff", 200)),
	}
}

// strangeBits are those of floats that are no numbers, but the clean one.
func strangeBits() []uint64 {
	return []uint64{
		0x7ff0000000000001, 0x7ff0000000000002, 0x7ff4000000000000, 0x7ff7ffffffffffff, 0x7ff8000000000000, 0x7ff8000000000002, 0x7ffc000000000001, 0x7fffffffffffffff,
		0xfff0000000000001, 0xfff7ffffffffffff, 0xfff8000000000000, 0xfff8000000000001, 0xffffffffffffffff,
	}
}

// dirty are versions of a valid value with something that its kind does not use.
func dirty(v api.Value) []api.Value {
	var l []api.Value
	if v.Kind != api.Bool {
		w := v
		w.Flag = true
		l = append(l, w)
	}
	if v.Kind != api.Int {
		for _, n := range []int64{1, -1, math.MinInt64} {
			w := v
			w.Int = n
			l = append(l, w)
		}
	}
	if v.Kind != api.Float {
		for _, b := range []uint64{1, 1 << 63, noNumber} {
			w := v
			w.Bits = b
			l = append(l, w)
		}
	}
	if v.Kind != api.Text {
		for _, s := range []string{"\x00", "a", strings.Repeat("a", 201)} {
			w := v
			w.Text = s
			l = append(l, w)
		}
	}
	if v == bits(noNumber) {
		for _, b := range strangeBits() {
			l = append(l, bits(b))
		}
	}
	return l
}

// unknown are kinds that there are not.
func unknown() []int {
	return []int{-1, -2, -4, 5, 6, 256, 260, math.MinInt32, math.MaxInt32, math.MinInt, math.MaxInt}
}

// Promise 4.1: each float keeps its bits, but those that are no number.
func TestOf(t *testing.T) {
	for _, v := range inOrder() {
		if v.Kind != api.Float {
			continue
		}
		if got := value.Of(math.Float64frombits(v.Bits)); got != v {
			t.Errorf("Of(%v) = %+v, want %+v", math.Float64frombits(v.Bits), got, v)
		}
	}
	for _, b := range strangeBits() {
		if got := value.Of(math.Float64frombits(b)); got != bits(noNumber) {
			t.Errorf("Of of the bits %x = %+v", b, got)
		}
	}
	if got := value.Of(1); got != bits(0x3ff0000000000000) {
		t.Errorf("Of(1) = %+v", got)
	}
	if got := value.Of(negativeZero); got != bits(1<<63) {
		t.Errorf("Of(-0) = %+v", got)
	}
	if got := value.Of(math.NaN()); got != bits(noNumber) {
		t.Errorf("Of(NaN) = %+v", got)
	}
}

// noFloat checks that v has no float.
func noFloat(t *testing.T, v api.Value) {
	t.Helper()
	if f, ok := value.Float(v); math.Float64bits(f) != 0 || ok {
		t.Errorf("Float(%+v) = %v, %v", v, f, ok)
	}
}

// Promise 4.1.
func TestFloat(t *testing.T) {
	for _, v := range inOrder() {
		for _, w := range dirty(v) {
			noFloat(t, w)
		}
		if v.Kind != api.Float {
			noFloat(t, v)
			continue
		}
		if f, ok := value.Float(v); math.Float64bits(f) != v.Bits || !ok {
			t.Errorf("Float(%+v) = %v, %v", v, f, ok)
		}
	}
	for _, kind := range unknown() {
		noFloat(t, api.Value{Kind: kind})
		noFloat(t, api.Value{Kind: kind, Bits: math.Float64bits(1)})
	}
	if f, ok := value.Float(value.Of(2.5)); f != 2.5 || !ok {
		t.Errorf("Float(Of(2.5)) = %v, %v", f, ok)
	}
}

// Promise 4.1.
func TestClean(t *testing.T) {
	for _, v := range inOrder() {
		if got := value.Clean(v); got != v {
			t.Errorf("Clean(%+v) = %+v", v, got)
		}
		for _, w := range dirty(v) {
			if got := value.Clean(w); got != v {
				t.Errorf("Clean(%+v) = %+v, want %+v", w, got, v)
			}
		}
	}
	all := api.Value{Flag: true, Int: -7, Bits: 0xfff0000000000001, Text: "text"}
	for kind, want := range []api.Value{null(), flag(true), whole(-7), bits(noNumber), text("text")} {
		all.Kind = kind
		if got := value.Clean(all); got != want {
			t.Errorf("Clean(%+v) = %+v, want %+v", all, got, want)
		}
	}
	for _, kind := range unknown() {
		all.Kind = kind
		if got := value.Clean(all); got != (api.Value{Kind: kind}) {
			t.Errorf("Clean(%+v) = %+v", all, got)
		}
	}
	long := text(strings.Repeat("a", 201))
	if got := value.Clean(long); got != long {
		t.Errorf("Clean of a text that is too long has %d bytes, and the kind %d", len(got.Text), got.Kind)
	}
}

// invalid are values that are not valid.
func invalid() []api.Value {
	var l []api.Value
	for _, v := range inOrder() {
		l = append(l, dirty(v)...)
	}
	for _, kind := range unknown() {
		l = append(l, api.Value{Kind: kind}, api.Value{Kind: kind, Text: "text"})
	}
	return append(l, text(strings.Repeat("a", 201)), text(strings.Repeat("a", 100000)))
}

// Promise 4.1.
func TestRight(t *testing.T) {
	for _, v := range inOrder() {
		if !value.Right(v) {
			t.Errorf("Right(%+v) = false", v)
		}
	}
	for _, v := range invalid() {
		if value.Right(v) {
			t.Errorf("Right(%+v) = true", v)
		}
	}
}
