package mill_test

import (
	"fmt"

	"chartulary/mill"
	"chartulary/sha"
)

// The example of README.md.
func Example() {
	m, _ := mill.With([]mill.Entry{{Text: "b", Out: sha.Sum("a")}})
	m.Sum("a")
	m.Sum("b")
	fmt.Println(m.Twins())
	fmt.Println(m.Sums(), m.Full())

	cipher := m.Veil("key", "label", "text")
	fmt.Println(len(cipher), m.Veil("key", "label", cipher))
	fmt.Println(sha.Hex(m.Tag("Jefe", "what do ya want for nothing?"))[:8])
	// Output:
	// a b true
	// 2 false
	// 4 text
	// 5bdcc146
}
