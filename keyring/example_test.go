package keyring_test

import (
	"fmt"
	"strings"

	"chartulary/api"
	"chartulary/disk"
	"chartulary/guard"
	"chartulary/keyring"
)

// The example of README.md.
func Example() {
	d, _ := disk.New(600)
	g, _ := guard.New(d, 1)
	r, e := keyring.New(g, 2, 3)
	fmt.Println(r.Slots(), e == api.OK)
	key := strings.Repeat("k", api.KeyBytes)
	fmt.Println(r.Put(0, key) == api.OK, r.Put(0, key) == api.ErrThere)
	r.Put(1, key)
	i, e := r.Find()
	fmt.Println(i, e == api.OK)
	s, e := r.Get(1)
	fmt.Println(s == key, e == api.OK)

	fmt.Println(r.Shred(0) == api.OK, r.Free(0))
	_, e = r.Get(0)
	fmt.Println(e == api.ErrNone)

	d.Arm(1, disk.Fall{Tear: 20})
	fmt.Println(r.Put(2, key) == api.ErrDown)
	d.Start()
	_, e = r.Get(2)
	fmt.Println(e == api.ErrTorn)
	n, e := r.Keep([]int{1})
	fmt.Println(n, e == api.OK)
	fmt.Println(r.Shreds())
	// Output:
	// 3 true
	// true true
	// 2 true
	// true true
	// true true
	// true
	// true
	// true
	// 1 true
	// 2
}
