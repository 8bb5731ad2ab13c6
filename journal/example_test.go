package journal_test

import (
	"fmt"
	"strings"

	"chartulary/api"
	"chartulary/disk"
	"chartulary/guard"
	"chartulary/journal"
)

// The example of README.md.
func Example() {
	d, _ := disk.New(600)
	g, _ := guard.New(d, 1)
	j, e := journal.Open(g, 2, 12, 9)
	fmt.Println(e == api.OK)
	fmt.Println(journal.Need(100))
	j.Append("one")
	j.Append(strings.Repeat("l", 100))
	fmt.Println(j.Flush() == api.OK)
	fmt.Println(j.Used(), j.Left())

	j.Append("three")
	fmt.Println(len(j.Records()), j.Sure())
	d.Crash(disk.Fall{Tear: 20})
	fmt.Println(j.Append("four") == api.ErrDown)
	d.Start()
	fmt.Println(j.Flush() == api.ErrDown)

	g, _ = guard.New(d, 2)
	j, _ = journal.Open(g, 2, 12, 9)
	fmt.Println(len(j.Records()), j.Sure())
	fmt.Println(j.Append(strings.Repeat("l", 400)) == api.ErrFull)
	n, e := journal.Wipe(g, 2, 12)
	fmt.Println(n, e == api.OK)
	// Output:
	// true
	// 3
	// true
	// 4 8
	// 3 2
	// true
	// true
	// 2 2
	// true
	// 5 true
}
