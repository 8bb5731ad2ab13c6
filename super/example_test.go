package super_test

import (
	"fmt"

	"chartulary/api"
	"chartulary/disk"
	"chartulary/guard"
	"chartulary/super"
)

// The example of README.md.
func Example() {
	d, _ := disk.New(600)
	g, _ := guard.New(d, 1)
	_, e := super.Load(d)
	fmt.Println(e == api.ErrNone)
	first := super.Super{Gen: 1, Boot: 1, Side: 0, Seed: 1}
	fmt.Println(super.Save(g, first) == api.OK)

	second := super.Next(first, true)
	fmt.Println(second)
	d.Arm(1, disk.Fall{Tear: 20})
	fmt.Println(super.Save(g, second) == api.ErrDown)
	d.Start()
	s, e := super.Load(d)
	fmt.Println(s == first, e == api.OK)

	g, _ = guard.New(d, 2)
	second.Boot = 2
	fmt.Println(super.Save(g, second) == api.OK)
	s, e = super.Load(d)
	fmt.Println(s == second, e == api.OK)

	fmt.Println(super.Right(super.Super{Gen: 1, Boot: 1, Seed: 2}))
	// Output:
	// true
	// true
	// {2 1 1 2}
	// true
	// true true
	// true
	// true true
	// false
}
