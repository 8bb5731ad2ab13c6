package ledger_test

import (
	"fmt"
	"strings"

	"chartulary/api"
	"chartulary/disk"
	"chartulary/ledger"
	"chartulary/mill"
	"chartulary/policy"
	"chartulary/value"
)

// The example of README.md.
func Example() {
	d, _ := disk.New(600)
	fmt.Println(ledger.Format(d) == api.OK)
	l, e := ledger.Open(d, mill.New(), policy.Policy{1: 5})
	fmt.Println(e == api.OK)
	p := api.Paper{ID: "a", Class: 1, Fields: []api.Field{{Name: "x", Value: value.Of(1)}, {Name: "y", Value: value.Of(2)}}}
	seq, e := l.Append(p, strings.Repeat("d", api.DrawBytes))
	fmt.Println(seq, e == api.OK)
	at, e := l.Point()
	fmt.Println(at.Size, e == api.OK)

	fmt.Println(l.Erase("a", "x") == api.OK)
	fields, lost, e := l.Get("a")
	fmt.Println(fields[0].Name, len(fields), lost, e == api.OK)
	s, e := l.Show("a", []string{"x", "y"}, at.Size)
	fmt.Println(s.Items[0].Erased, s.Items[1].Value == value.Bytes(value.Of(2)), e == api.OK)

	l.Hold("a", "case")
	l.Tick(5)
	due, ok := l.Deadline("a")
	fmt.Println(due, ok)
	fmt.Println(l.Drop("a") == api.ErrHeld)
	fmt.Println(l.Step())
	l.Release("a", "case")
	fmt.Println(l.Step())
	d.Arm(3, disk.Fall{Tear: 20})
	_, e = l.Step()
	fmt.Println(e == api.ErrDown, l.Up())

	d.Start()
	l, e = ledger.Open(d, mill.New(), policy.Policy{1: 5})
	fmt.Println(e == api.OK, l.Dirty())
	_, lost, e = l.Get("a")
	fmt.Println(lost, e == api.OK)
	fmt.Println(l.Step())
	fmt.Println(l.Step())
	// Output:
	// true
	// true
	// 0 true
	// 1 true
	// true
	// y 1 [x] true
	// true true true
	// 5 true
	// true
	// 2 chartulary: error 0
	// 1 chartulary: error 0
	// true false
	// true 1
	// [x y] true
	// 2 chartulary: error 0
	// 0 chartulary: error 0
}
