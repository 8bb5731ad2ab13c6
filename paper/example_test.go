package paper_test

import (
	"fmt"

	"chartulary/api"
	"chartulary/paper"
	"chartulary/value"
)

// The example of README.md.
func Example() {
	p := api.Paper{ID: "a", Class: 2, Fields: []api.Field{{Name: "y", Value: value.Of(1)}, {Name: "x", Value: api.Value{Kind: api.Bool, Flag: true}}}}
	fmt.Println(paper.Check(p) == api.OK)
	s, e := paper.Bytes(p)
	fmt.Println(len(s), e == api.OK)

	q, e := paper.Read(s)
	fmt.Println(q.Fields[0].Name, e == api.OK)
	fmt.Println(paper.Find(p, "x"), paper.Find(q, "x"))
	fmt.Println(paper.Same(p, q))

	p.Fields[0].Name = "x"
	fmt.Println(paper.Check(p) == api.ErrTwice)
	// Output:
	// true
	// 30 true
	// x true
	// 1 0
	// true
	// true
}
