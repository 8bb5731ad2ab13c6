package sha_test

import (
	"fmt"

	"chartulary/sha"
)

// The example of README.md.
func Example() {
	st := sha.New()
	st.Write("a")
	st.Write("bc")
	fmt.Println(sha.Hex(st.Sum()))
	fmt.Println(st.Sum() == sha.Sum("abc"), st.Len())
	// Output:
	// ba7816bf8f01cfea414140de5dae2223b00361a396177a9cb410ff61f20015ad
	// true 3
}
