package value_test

import (
	"fmt"

	"chartulary/api"
	"chartulary/value"
)

// The example of README.md.
func Example() {
	s := value.Bytes(value.Of(1))
	fmt.Printf("%x\n", s)

	v, e := value.Read(s)
	fmt.Println(e == api.OK, v == value.Of(1))
	fmt.Println(value.Float(v))
	fmt.Println(value.Whole(v))

	text := api.Value{Kind: api.Text, Text: "ab"}
	fmt.Println(value.Compare(v, text))
	fmt.Println(value.Right(text), value.Worth(v, text))

	text.Flag = true
	fmt.Println(value.Right(text), value.Right(value.Clean(text)))
	// Output:
	// 01033ff0000000000000
	// true true
	// 1 true
	// 1 true
	// -1
	// true false
	// false true
}
