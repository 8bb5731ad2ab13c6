package guard_test

import (
	"fmt"

	"chartulary/api"
	"chartulary/disk"
	"chartulary/guard"
)

// The example of README.md.
func Example() {
	d, _ := disk.New(600)
	g, e := guard.New(d, 1)
	fmt.Println(e == api.OK)
	stamp, e := g.Put(1, "hello")
	fmt.Println(stamp == 1<<32+1, e == api.OK)
	g.Flush()
	s, stamp, e := g.Get(1)
	fmt.Println(s, stamp == 1<<32+1, e == api.OK)
	fmt.Println(g.Blank(0))

	g.Put(1, "other")
	d.Crash(disk.Fall{Tear: 20})
	d.Start()
	_, _, e = guard.Read(d, 1)
	fmt.Println(e == api.ErrTorn)

	g, _ = guard.New(d, 2)
	g.Erase(1)
	fmt.Println(g.Blank(1))

	fmt.Printf("%q %d\n", guard.Eight(258), guard.Number(guard.Eight(-5)))
	// Output:
	// true
	// true true
	// hello true true
	// true
	// true
	// true
	// "\x00\x00\x00\x00\x00\x00\x01\x02" -5
}
