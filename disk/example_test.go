package disk_test

import (
	"fmt"
	"strings"

	"chartulary/api"
	"chartulary/disk"
)

// The example of README.md.
func Example() {
	d, _ := disk.New(600)
	d.Write(0, strings.Repeat("x", api.SectorBytes))
	d.Flush()
	d.Write(0, strings.Repeat("y", api.SectorBytes))
	d.Write(2, strings.Repeat("y", api.SectorBytes))
	fmt.Println(d.Waiting())

	d.Crash(disk.Fall{Keep: 2, Tear: 10})
	_, e := d.Read(0)
	fmt.Println(e == api.ErrDown)
	d.Start()
	s, e := d.Read(0)
	fmt.Println(s, e == api.OK)
	s, e = d.Read(2)
	fmt.Println(s, e == api.OK)
	fmt.Println(d.Stamp(0), d.Stamp(2), d.Acts(), d.Falls())

	d.Arm(1, disk.Fall{Tear: -1})
	fmt.Println(d.Flush() == api.OK, d.Flush() == api.ErrDown)
	// Output:
	// [0 2]
	// true
	// yyyyyyyyyyxxxxxxxxxxxxxxxxxxxxxxxxxxxxxxxxxxxxxxxxxxxxxxxxxxxxxx true
	// yyyyyyyyyyyyyyyyyyyyyyyyyyyyyyyyyyyyyyyyyyyyyyyyyyyyyyyyyyyyyyyy true
	// 3 4 4 1
	// true true
}
