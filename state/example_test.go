package state_test

import (
	"fmt"

	"chartulary/api"
	"chartulary/mill"
	"chartulary/pledge"
	"chartulary/state"
)

// The example of README.md.
func Example() {
	m := mill.New()
	slip := pledge.Slip(m, "draw", "id", "n", "value")
	stored := api.Entry{ID: "id", Class: 2, Born: 7, Slips: []api.Slip{slip}}

	s := state.New()
	add := api.Event{Kind: api.EvPaper, Entry: stored}
	fmt.Println(int(s.Apply(add)))
	fmt.Println(int(s.Apply(api.Event{Kind: api.EvClock, Now: 7})))
	fmt.Println(int(s.Apply(add)))
	fmt.Println(int(s.Check(add)))
	fmt.Println(s.Seq("id"))
	fmt.Println(s.Used())

	erase := api.Event{Kind: api.EvField, Seq: 0, Index: 0}
	fmt.Println(int(s.Apply(api.Event{Kind: api.EvHold, Seq: 0, Name: "case"})))
	fmt.Println(int(s.Check(erase)))
	fmt.Println(int(s.Apply(api.Event{Kind: api.EvRelease, Seq: 0, Name: "case"})))
	fmt.Println(int(s.Apply(erase)))
	e, err := s.Entry(0)
	fmt.Println(e.Slips[0].Erased, e.Slips[0].Cipher == "", e.Slips[0].Pledge == slip.Pledge, int(err))

	again := state.New()
	for _, v := range s.Snapshot() {
		fmt.Println(v.Kind, int(again.Apply(v)))
	}
	fmt.Println(state.Same(s, again))
	fmt.Println(s.Events(), again.Events())
	// Output:
	// 24
	// 0
	// 0
	// 10
	// 0 chartulary: error 0
	// [0]
	// 0
	// 11
	// 0
	// 0
	// true true true 0
	// 7 0
	// 1 0
	// true
	// 5 2
}
