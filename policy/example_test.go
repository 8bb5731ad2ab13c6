package policy_test

import (
	"fmt"

	"chartulary/policy"
)

// The example of README.md.
func Example() {
	p := policy.Policy{1: 5, 2: 10}
	fmt.Println(p.Right())
	fmt.Println(p.Deadline(1, 3))
	fmt.Println(p.Deadline(0, 3))

	var q policy.Queue
	for seq, at := range []int{7, 3, 9, 3, 5} {
		q.Add(policy.Due{Seq: seq, At: at})
	}
	fmt.Println(q.First())
	fmt.Println(q.Ready(5, []int{1, 3}))
	fmt.Println(q.Ready(2, nil))
	fmt.Println(q.Drop(3))
	fmt.Println(q.Take())
	fmt.Println(q.All())
	fmt.Println(q.Len())
	// Output:
	// true
	// 8 true
	// 0 false
	// {1 3} true
	// {4 5} true
	// {0 0} false
	// true
	// {1 3} true
	// [{4 5} {0 7} {2 9}]
	// 3
}
