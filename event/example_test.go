package event_test

import (
	"fmt"

	"chartulary/api"
	"chartulary/event"
	"chartulary/mill"
	"chartulary/pledge"
)

// The example of README.md.
func Example() {
	v := api.Event{Kind: api.EvGone, Seq: 5, Index: 99}
	fmt.Println(event.Right(v))
	s := event.Bytes(v)
	fmt.Println([]byte(s))
	w, e := event.Read(s)
	fmt.Println(w.Seq, w.Index, e == api.OK)
	fmt.Println(event.Same(v, w))

	m := mill.New()
	stored := api.Entry{ID: "id", Class: 2, Born: 7, Slips: []api.Slip{pledge.Slip(m, "draw", "id", "n", "value")}}
	fmt.Println(event.RightEntry(stored))
	s = event.Bytes(api.Event{Kind: api.EvPaper, Entry: stored})
	fmt.Println(len(s))
	stored.Gone = true
	fmt.Println(event.RightEntry(stored))

	v.Seq = 64
	fmt.Println(event.Bytes(v) == "")
	_, e = event.Read("\x01\x09")
	fmt.Println(e == api.ErrLong)
	// Output:
	// true
	// [1 3 1 5]
	// 5 0 true
	// true
	// true
	// 76
	// false
	// true
	// true
}
