package find_test

import (
	"fmt"

	"chartulary/api"
	"chartulary/find"
	"chartulary/value"
)

// The example of README.md.
func Example() {
	var l []api.Paper
	for _, f := range []float64{3, 1, 2, 1} {
		l = append(l, api.Paper{ID: "id", Fields: []api.Field{{Name: "x", Value: value.Of(f)}}})
	}
	l = append(l, api.Paper{ID: "id", Fields: []api.Field{{Name: "y", Value: value.Of(9)}}})

	t := find.Term{Name: "x", Low: value.Of(2), HasLow: true}
	fmt.Println(find.Holds(t, l[0]))
	found, err := find.Run(find.Query{Terms: []find.Term{t}, Most: 64}, l)
	fmt.Println(found, int(err))
	t.Not = true
	found, err = find.Run(find.Query{Terms: []find.Term{t}, Most: 64}, l)
	fmt.Println(found, int(err))
	found, err = find.Run(find.Query{By: "x", Down: true, Most: 64}, l)
	fmt.Println(found, int(err))
	fmt.Println(int(find.Check(find.Query{Most: -1})))

	for _, g := range find.Groups("x", l) {
		f, _ := value.Float(g.Value)
		fmt.Println(f, g.N)
	}
	fmt.Println(find.Sum("x", l))
	greatest, ok := find.Extreme("x", true, l)
	fmt.Println(greatest == value.Of(3), ok)
	mean, ok := find.Mean("x", l)
	fmt.Println(mean == value.Of(1.75), ok)
	// Output:
	// true
	// [0 2] 0
	// [1 3] 0
	// [0 2 1 3 4] 0
	// 5
	// 1 2
	// 2 1
	// 3 1
	// 4 1 3
	// true true
	// true true
}
