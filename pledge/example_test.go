package pledge_test

import (
	"fmt"

	"chartulary/mill"
	"chartulary/pledge"
)

// The example of README.md.
func Example() {
	m := mill.New()
	s := pledge.Slip(m, "draw", "id", "n", "value")
	fmt.Println(s.Name, len(s.Pledge), len(s.Cipher))

	key := pledge.Key(m, "draw")
	salt, v, ok := pledge.Kept(m, key, "id", s)
	fmt.Println(salt == pledge.Salt(m, "draw", "n"), v, ok)
	_, _, ok = pledge.Kept(m, key, "other", s)
	fmt.Println(ok)

	fmt.Println(s.Pledge == pledge.Of(m, "id", "n", salt, "value"))
	fmt.Println(s.Cipher == pledge.Shut(m, key, "n", salt, "value"))
	_, v, ok = pledge.Open(m, key, "n", s.Cipher)
	fmt.Println(v, ok)
	// Output:
	// n 32 21
	// true value true
	// false
	// true
	// true
	// value true
}
