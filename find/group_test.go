package find_test

import (
	"math"
	"slices"
	"testing"

	"chartulary/api"
	"chartulary/find"
)

type group = find.Group

// checkGroups checks the groups of field x.
func checkGroups(t *testing.T, l []paper, want ...group) {
	t.Helper()
	if got := find.Groups("x", l); !slices.Equal(got, want) {
		t.Errorf("Groups = %v, want %v", got, want)
	}
}

// checkSum checks the sum of field x.
func checkSum(t *testing.T, l []paper, n int, least, greatest int64) {
	t.Helper()
	if i, a, b := find.Sum("x", l); i != n || a != least || b != greatest {
		t.Errorf("Sum = %d, %d, %d, want %d, %d, %d", i, a, b, n, least, greatest)
	}
}

// checkValue checks a value that a call returned; no wanted one: there is none.
func checkValue(t *testing.T, what string, v api.Value, ok bool, want ...api.Value) {
	t.Helper()
	var first api.Value
	if len(want) > 0 {
		first = want[0]
	}
	if v != first || ok != (len(want) > 0) {
		t.Errorf("%s = %+v, %v, want %+v", what, v, ok, want)
	}
}

// checkExtremes checks the first and the last float of field x; no wanted ones: there is none.
func checkExtremes(t *testing.T, l []paper, want ...api.Value) {
	t.Helper()
	v, ok := find.Extreme("x", false, l)
	checkValue(t, "the first float", v, ok, want[:min(1, len(want))]...)
	v, ok = find.Extreme("x", true, l)
	checkValue(t, "the last float", v, ok, want[min(1, len(want)):]...)
}

// checkMean checks the mean of field x.
func checkMean(t *testing.T, l []paper, want ...api.Value) {
	t.Helper()
	v, ok := find.Mean("x", l)
	checkValue(t, "Mean", v, ok, want...)
}

// Promise 17.3: example 2 of the chapter.
func TestGroupExample(t *testing.T) {
	l := append(each(float(3), float(1), float(2), float(1)), other())
	checkGroups(t, l, group{float(1), 2}, group{float(2), 1}, group{float(3), 1})
	checkSum(t, l, 4, 1, 3)
	checkExtremes(t, l, float(1), float(3))
	checkMean(t, l, float(1.75))

	l = append(each(whole(3), whole(1), whole(2), whole(1)), other())
	checkGroups(t, l, group{whole(1), 2}, group{whole(2), 1}, group{whole(3), 1})
	checkSum(t, l, 4, 1, 3)
}

// Promise 17.3: without the field, or without values of the kind.
func TestGroupNothing(t *testing.T) {
	for _, l := range [][]paper{nil, {}, {of()}, {other(), of(), {}, of(field("y", float(1)))}} {
		checkGroups(t, l)
		checkSum(t, l, 0, 0, 0)
		checkExtremes(t, l)
		checkMean(t, l)
	}
	l := append(each(text("1"), flag(true), api.Value{}), other())
	checkSum(t, l, 0, 0, 0)
	checkExtremes(t, l)
	checkMean(t, l)
}

// Promise 17.3: each value of its own, in order, those of different kinds as well.
func TestGroups(t *testing.T) {
	var values []api.Value
	var want []group
	for i, v := range pool() {
		want = append(want, group{v.value, i%3 + 1})
		for range i%3 + 1 {
			values = append(values, v.value)
		}
	}
	checkGroups(t, append(each(values...), other()), want...)
	slices.Reverse(values)
	checkGroups(t, append(each(values...), other()), want...)
	for n := range values {
		checkGroups(t, append(each(values[n:]...), each(values[:n]...)...), want...)
	}
}

// Promise 17.3: a paper counts once, with the first of its fields.
func TestGroupFirst(t *testing.T) {
	l := []paper{
		of(field("x", float(2)), field("x", float(2)), field("x", float(5))),
		of(field("y", float(9)), field("x", float(4)), field("x", float(-1))),
		of(field("x", text("a")), field("x", float(7)), field("x", whole(7))),
	}
	checkGroups(t, l, group{float(2), 1}, group{float(4), 1}, group{text("a"), 1})
	checkSum(t, l, 2, 2, 4)
	checkExtremes(t, l, float(2), float(4))
	checkMean(t, l, float(3))
}

// Promise 17.3: every integer counts, also as a float, and nothing else; the limits are those of 64 bits.
func TestSum(t *testing.T) {
	var all []api.Value
	n := 0
	for _, v := range pool() {
		all = append(all, v.value)
		if !v.isWhole {
			checkSum(t, each(v.value), 0, 0, 0)
			checkSum(t, each(v.value, whole(-5), v.value), 1, -5, -5)
			continue
		}
		n++
		checkSum(t, each(v.value), 1, v.n, v.n)
		checkSum(t, append(each(v.value, v.value), other()), 2, v.n, v.n)
		checkSum(t, each(whole(math.MaxInt64), v.value, whole(math.MinInt64)), 3, math.MinInt64, math.MaxInt64)
	}
	checkSum(t, each(all...), n, math.MinInt64, math.MaxInt64)
	checkSum(t, each(whole(5), float(7), float(6.5), whole(6)), 3, 5, 7)
	checkSum(t, each(float(-7), whole(-5), text("9")), 2, -7, -5)
}

// Promise 17.3: every float but NaN counts, by the order of chapter 4, and integers don't.
func TestExtreme(t *testing.T) {
	var floats []api.Value
	for _, v := range pool() {
		if v.value.Kind != 3 || v.value == noNumber {
			checkExtremes(t, each(v.value))
			checkExtremes(t, each(v.value, float(5), v.value), float(5), float(5))
			continue
		}
		floats = append(floats, v.value)
	}
	for i, v := range floats {
		for k, w := range floats {
			first, last := floats[min(i, k)], floats[max(i, k)]
			checkExtremes(t, append(each(noNumber, v, whole(-1000), w, v, text("z"), noNumber), other()), first, last)
		}
	}
	checkExtremes(t, each(float(0), minus), minus, float(0))
	checkExtremes(t, each(minus, float(0), minus), minus, float(0))
	checkExtremes(t, each(noNumber, noNumber))
	checkExtremes(t, each(float(1), float(math.Inf(1)), float(math.Inf(-1))), float(math.Inf(-1)), float(math.Inf(1)))
}

// Promise 17.3: sums are rounded one by one, in the order of the papers, from 0 on, and divided by the number of floats.
func TestMean(t *testing.T) {
	inf := math.Inf(1)
	// These are variables, so that Go adds them as it does when a program runs.
	a, b, c := 0.1, 0.2, 0.3
	for _, v := range []struct {
		values []api.Value
		want   api.Value
	}{
		{[]api.Value{float(1)}, float(1)},
		{[]api.Value{float(1), whole(100), text("9"), flag(true), {}, float(2)}, float(1.5)},
		{[]api.Value{minus}, float(0)},
		{[]api.Value{minus, minus}, float(0)},
		{[]api.Value{float(-1), float(1)}, float(0)},
		{[]api.Value{float(a), float(b), float(c)}, float((a + b + c) / 3)},
		{[]api.Value{float(c), float(b), float(a)}, float((c + b + a) / 3)},
		{[]api.Value{float(a), float(b), float(c)}, bits(0x3fc999999999999b)},
		{[]api.Value{float(c), float(b), float(a)}, bits(0x3fc9999999999999)},
		{[]api.Value{float(1 << 53), float(1), float(1), float(1)}, float(1 << 51)},
		{[]api.Value{float(1), float(1), float(1 << 53)}, float((1<<53 + 2) / 3.0)},
		{[]api.Value{float(math.MaxFloat64), float(math.MaxFloat64)}, float(inf)},
		{[]api.Value{float(math.MaxFloat64), float(math.MaxFloat64), float(-math.MaxFloat64)}, float(inf)},
		{[]api.Value{float(math.MaxFloat64), float(-math.MaxFloat64), float(math.MaxFloat64)}, float(math.MaxFloat64 / 3)},
		{[]api.Value{float(-inf), float(5)}, float(-inf)},
		{[]api.Value{float(inf), float(-inf)}, noNumber},
		{[]api.Value{float(-inf), float(5), float(inf), float(5)}, noNumber},
		{[]api.Value{float(1), noNumber, float(2)}, noNumber},
		{[]api.Value{noNumber}, noNumber},
		{[]api.Value{float(math.SmallestNonzeroFloat64), float(0)}, float(0)},
		{[]api.Value{float(-math.SmallestNonzeroFloat64), float(0)}, minus},
		{[]api.Value{float(3 * math.SmallestNonzeroFloat64), minus}, float(2 * math.SmallestNonzeroFloat64)},
	} {
		checkMean(t, each(v.values...), v.want)
		checkMean(t, slices.Insert(each(v.values...), 1, other(), of()), v.want)
	}
}

// R1: values that are not valid are promised nothing, but all calls return.
func TestGroupWrongValues(t *testing.T) {
	for _, v := range wrongValues() {
		l := each(v, float(1), v)
		find.Groups("x", l)
		find.Sum("x", l)
		find.Extreme("x", false, l)
		find.Extreme("x", true, l)
		find.Mean("x", l)
		if _, err := find.Run(query{Terms: terms(1), By: "x", Most: 9}, l); err != api.OK {
			t.Errorf("Run with %+v = %v", v, err)
		}
	}
	for _, name := range wrongNames() {
		l := []paper{of(field(name, float(1))), of()}
		if got := find.Groups(name, l); !slices.Equal(got, []group{{float(1), 1}}) {
			t.Errorf("Groups(%q) = %v", name, got)
		}
	}
}
