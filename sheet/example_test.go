package sheet_test

import (
	"fmt"

	"chartulary/api"
	"chartulary/mill"
	"chartulary/pledge"
	"chartulary/sheet"
)

// The example of README.md, and the first of the chapter.
func Example() {
	m := mill.New()
	slips := []api.Slip{
		pledge.Slip(m, "draw", "id", "a", "1"),
		pledge.Slip(m, "draw", "id", "b", "2"),
		pledge.Slip(m, "draw", "id", "c", "3"),
	}
	nodes, e := sheet.Nodes(m, slips, []int{0, 2})
	fmt.Println(len(nodes), nodes[0] == sheet.Leaf(m, "b", slips[1].Pledge), e == api.OK)

	first := sheet.Leaf(m, "a", slips[0].Pledge)
	third := sheet.Leaf(m, "c", slips[2].Pledge)
	r, e := sheet.Rebuild(m, 3, []int{0, 2}, []string{first, third}, nodes)
	fmt.Println(r == sheet.Root(m, slips), e == api.OK)
	_, e = sheet.Rebuild(m, 3, []int{0, 2}, []string{first, third}, nil)
	fmt.Println(e == api.ErrProof)

	leaf := sheet.Paper(m, "id", 1, 7, 3, r)
	slips[1].Cipher, slips[1].Erased = "", true
	fmt.Println(leaf == sheet.Entry(m, api.Entry{ID: "id", Class: 1, Born: 7, Slips: slips}))
	// Output:
	// 1 true true
	// true true
	// true
	// true
}
