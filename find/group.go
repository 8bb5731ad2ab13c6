package find

import (
	"slices"

	"chartulary/api"
	"chartulary/value"
)

// Group is a value, and the number of papers that have it.
type Group struct {
	Value api.Value
	N     int
}

// values are what the papers that have the field have in it.
func values(name string, l []api.Paper) []api.Value {
	var found []api.Value
	for _, p := range l {
		if v, ok := field(p, name); ok {
			found = append(found, v)
		}
	}
	return found
}

// Groups are the different values of a field, in order, each with the number of papers that have it.
func Groups(name string, l []api.Paper) []Group {
	sorted := values(name, l)
	slices.SortStableFunc(sorted, value.Compare)
	var groups []Group
	for i, v := range sorted {
		// 0 and -0 are different values, which Compare tells apart, as it does all that is valid and not equal.
		if i == 0 || value.Compare(sorted[i-1], v) != 0 {
			groups = append(groups, Group{Value: v})
		}
		groups[len(groups)-1].N++
	}
	return groups
}

// Sum is the number of papers that have an integer in a field, the smallest of these integers, and the greatest one.
func Sum(name string, l []api.Paper) (int, int64, int64) {
	var found []int64
	for _, v := range values(name, l) {
		if n, ok := value.Whole(v); ok {
			found = append(found, n)
		}
	}
	if len(found) == 0 {
		return 0, 0, 0
	}
	return len(found), slices.Min(found), slices.Max(found)
}

// Extreme is the first float of a field in order, or the last one, other than NaN; false: there is none.
func Extreme(name string, top bool, l []api.Paper) (api.Value, bool) {
	found := slices.DeleteFunc(values(name, l), func(v api.Value) bool {
		// As a number, NaN is not even equal to itself, and what is not a float has no number.
		return !value.Worth(v, v)
	})
	switch {
	case len(found) == 0:
		return api.Value{}, false
	case top:
		return slices.MaxFunc(found, value.Compare), true
	}
	return slices.MinFunc(found, value.Compare), true
}

// Mean is the mean of the floats of a field, which are added in the order of the papers; false: there are none.
func Mean(name string, l []api.Paper) (api.Value, bool) {
	sum, n := 0.0, 0
	for _, v := range values(name, l) {
		if f, ok := value.Float(v); ok {
			sum += f
			n++
		}
	}
	if n == 0 {
		return api.Value{}, false
	}
	return value.Of(sum / float64(n)), true
}
