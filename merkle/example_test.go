package merkle_test

import (
	"fmt"

	"chartulary/api"
	"chartulary/merkle"
	"chartulary/mill"
	"chartulary/pledge"
)

// The example of README.md.
func Example() {
	m := mill.New()
	l := []string{pledge.Leaf(m, "a"), pledge.Leaf(m, "b"), pledge.Leaf(m, "c")}
	p, e := merkle.Path(m, l, 2)
	r, _ := merkle.Climb(m, l[2], 2, 3, p)
	fmt.Println(len(p), e == api.OK, r == merkle.Root(m, l))

	f := merkle.New(m)
	f.Add(l[0])
	from := api.Point{Size: f.Size(), Root: f.Root()}
	f.Add(l[1])
	f.Add(l[2])
	to := api.Point{Size: f.Size(), Root: f.Root()}
	p, e = merkle.Growth(m, l, 1)
	fmt.Println(len(p), e == api.OK, merkle.Grown(m, from, to, p) == api.OK)
	fmt.Println(merkle.Grown(m, from, to, p[1:]) == api.ErrProof)
	// Output:
	// 1 true true
	// 2 true true
	// true
}
