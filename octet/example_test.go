package octet_test

import (
	"fmt"

	"chartulary/octet"
)

// The example of README.md.
func Example() {
	var w octet.Writer
	w.Num(258)
	w.Texts("x", "")
	s, ok := w.All()
	fmt.Printf("%q %v\n", s, ok)

	r := octet.Read(s)
	fmt.Printf("%d %q\n", r.Num(1000), r.Texts(10, 24))
	fmt.Println(r.End() == 0)
	// Output:
	// "\x02\x01\x02\x01\x02\x01\x01x\x00" true
	// 258 ["x" ""]
	// true
}
