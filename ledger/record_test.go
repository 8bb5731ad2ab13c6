package ledger_test

import (
	"math"
	"strings"
	"testing"

	"chartulary/api"
	"chartulary/disk"
	"chartulary/journal"
	"chartulary/ledger"
	"chartulary/policy"
)

// rejected checks that a call is rejected, and changes nothing.
func rejected(t *testing.T, what string, d *disk.Disk, l *ledger.Ledger, want api.Errno, call func() api.Errno) {
	t.Helper()
	image, acts, left, events, dirty := d.Image(), d.Acts(), l.Left(), l.State().Events(), l.Dirty()
	check(t, what, call(), want)
	if d.Image() != image || d.Acts() != acts || l.Left() != left || l.State().Events() != events || l.Dirty() != dirty || !l.Up() {
		t.Errorf("%s: something has changed", what)
	}
}

// recorded checks that a call records one event, which is durable.
func recorded(t *testing.T, what string, d *disk.Disk, l *ledger.Ledger, call func() api.Errno) {
	t.Helper()
	left, events := l.Left(), l.State().Events()
	check(t, what, call(), api.OK)
	if l.Left() != left-1 || l.State().Events() != events+1 || len(d.Waiting()) > 0 {
		t.Errorf("%s: %d sectors are left of %d, and %d events are %d", what, l.Left(), left, events, l.State().Events())
	}
}

// Promise 18.3, example 2.
func TestErase(t *testing.T) {
	d, l := fresh(t, 600)
	add(t, l, paperOf("a", 0, "x", "y"), paperOf("b", 1, "x"))
	erase := func(id, name string) func() api.Errno {
		return func() api.Errno { return l.Erase(id, name) }
	}
	recorded(t, "Erase", d, l, erase("a", "x"))
	same(t, "Dirty", l.Dirty(), 1)
	checkGet(t, l, "a", "y", "x")
	rejected(t, "Erase again", d, l, api.ErrErased, erase("a", "x"))
	rejected(t, "Erase of another field", d, l, api.ErrName, erase("a", "z"))
	rejected(t, "Erase of no field", d, l, api.ErrName, erase("a", ""))
	rejected(t, "Erase of another paper", d, l, api.ErrNone, erase("c", "x"))
	rejected(t, "Erase of no paper", d, l, api.ErrNone, erase("", ""))
	check(t, "Hold", l.Hold("a", "case"), api.OK)
	rejected(t, "Erase of a held paper", d, l, api.ErrHeld, erase("a", "y"))
	rejected(t, "Erase again, of a held paper", d, l, api.ErrErased, erase("a", "x"))
	rejected(t, "Erase of another field, of a held paper", d, l, api.ErrName, erase("a", "z"))
	check(t, "Release", l.Release("a", "case"), api.OK)
	recorded(t, "Erase", d, l, erase("a", "y"))
	checkGet(t, l, "a", "", "x y")
	// All fields are erased, but the paper is not gone.
	e, _ := l.State().Entry(0)
	same(t, "Gone", e.Gone, false)
	same(t, "used slots", l.State().Used(), []int{0, 1})
	same(t, "Dirty", l.Dirty(), 2)
	l = restart(t, d)
	checkGet(t, l, "a", "", "x y")
	checkGet(t, l, "b", "x", "")
	same(t, "Dirty", l.Dirty(), 2)
}

// Promise 18.3.
func TestDrop(t *testing.T) {
	d, l := fresh(t, 600)
	add(t, l, paperOf("a", 1, "x", "y"), paperOf("b", 1, "x"), paperOf("c", 2, "x"))
	drop := func(id string) func() api.Errno {
		return func() api.Errno { return l.Drop(id) }
	}
	rejected(t, "Drop of an unknown paper", d, l, api.ErrNone, drop("d"))
	rejected(t, "Drop of no paper", d, l, api.ErrNone, drop(""))
	check(t, "Erase", l.Erase("b", "x"), api.OK)
	check(t, "Hold", l.Hold("b", "case"), api.OK)
	rejected(t, "Drop of a held paper", d, l, api.ErrHeld, drop("b"))
	same(t, "Waits", len(l.Waits()), 3)
	recorded(t, "Drop", d, l, drop("a"))
	same(t, "Dirty", l.Dirty(), 2)
	same(t, "Waits", l.Waits(), []policy.Due{{Seq: 1, At: 5}, {Seq: 2, At: 10}})
	if at, ok := l.Deadline("a"); at != 0 || ok {
		t.Errorf("Deadline = %d, %v", at, ok)
	}
	rejected(t, "Drop again", d, l, api.ErrErased, drop("a"))
	same(t, "slots", heldFrom(d, 2, 66), []int{3, 4})
	same(t, "stamp of the slot", d.Stamp(2), d.Acts()-1)
	check(t, "Release", l.Release("b", "case"), api.OK)
	recorded(t, "Drop of a paper whose fields are erased", d, l, drop("b"))
	l = restart(t, d)
	checkGet(t, l, "a", "", "x y")
	checkGet(t, l, "b", "", "x")
	checkGet(t, l, "c", "x", "")
	same(t, "Dirty", l.Dirty(), 3)
	same(t, "Waits", l.Waits(), []policy.Due{{Seq: 2, At: 10}})
	same(t, "slots", heldFrom(d, 2, 66), []int{4})
}

// Promise 18.3: holds and releases, and their errors in order.
func TestHold(t *testing.T) {
	d, l := fresh(t, 600)
	add(t, l, paperOf("a", 0, "x"), paperOf("b", 0, "x"))
	hold := func(id, name string) func() api.Errno {
		return func() api.Errno { return l.Hold(id, name) }
	}
	release := func(id, name string) func() api.Errno {
		return func() api.Errno { return l.Release(id, name) }
	}
	for _, f := range []func(id, name string) func() api.Errno{hold, release} {
		rejected(t, "no paper, no name", d, l, api.ErrNone, f("c", ""))
		for _, name := range []string{"", "a b", strings.Repeat("n", 17), "\x00", strings.Repeat("n", 100000)} {
			rejected(t, "no name", d, l, api.ErrName, f("a", name))
		}
	}
	rejected(t, "no such hold", d, l, api.ErrName, release("a", "w"))
	for _, name := range strings.Fields("z x y " + strings.Repeat("n", 16)) {
		recorded(t, "Hold", d, l, hold("a", name))
	}
	rejected(t, "the hold twice", d, l, api.ErrTwice, hold("a", "y"))
	rejected(t, "a fifth hold", d, l, api.ErrFull, hold("a", "w"))
	e, _ := restart(t, d).State().Entry(0)
	same(t, "holds", e.Holds, []string{strings.Repeat("n", 16), "x", "y", "z"})
	l = restart(t, d)
	rejected(t, "Drop", d, l, api.ErrHeld, func() api.Errno { return l.Drop("a") })
	for _, name := range strings.Fields("x z y " + strings.Repeat("n", 16)) {
		rejected(t, "Drop", d, l, api.ErrHeld, func() api.Errno { return l.Drop("a") })
		recorded(t, "Release", d, l, release("a", name))
		rejected(t, "Release again", d, l, api.ErrName, release("a", name))
	}
	check(t, "Drop", l.Drop("a"), api.OK)
	rejected(t, "Hold of a paper that is gone", d, l, api.ErrErased, hold("a", "x"))
	rejected(t, "Release of a paper that is gone", d, l, api.ErrName, release("a", "x"))
	same(t, "Dirty", l.Dirty(), 1)
}

// Promise 18.3.
func TestTick(t *testing.T) {
	d, l := fresh(t, 600)
	tick := func(n int) func() api.Errno {
		return func() api.Errno { return l.Tick(n) }
	}
	for _, n := range []int{-1, -5, math.MinInt, api.MaxClock + 1, math.MaxInt, math.MaxInt - 1} {
		rejected(t, "Tick", d, l, api.ErrClock, tick(n))
	}
	now := 0
	for _, n := range []int{0, 1, 0, 7, 1 << 30, 1 << 32} {
		recorded(t, "Tick", d, l, tick(n))
		now += n
		same(t, "time", l.State().Now(), now)
	}
	rejected(t, "Tick beyond the end", d, l, api.ErrClock, tick(api.MaxClock-now+1))
	for _, n := range []int{math.MaxInt, math.MaxInt - now, math.MaxInt - now + 1, api.MaxClock} {
		rejected(t, "Tick", d, l, api.ErrClock, tick(n))
	}
	recorded(t, "Tick to the end", d, l, tick(api.MaxClock-now))
	recorded(t, "Tick at the end", d, l, tick(0))
	rejected(t, "Tick at the end", d, l, api.ErrClock, tick(1))
	rejected(t, "Tick at the end", d, l, api.ErrClock, tick(-1))
	add(t, l, paperOf("a", 1, "x"))
	l = restart(t, d)
	same(t, "time", l.State().Now(), 1<<40)
	same(t, "Waits", l.Waits(), []policy.Due{{Seq: 0, At: 1<<40 + 5}})
	same(t, "Dirty", l.Dirty(), 0)
}

// Whatever is recorded needs room for its record only, and is rejected if it has none; errors of the state come first.
func TestFull(t *testing.T) {
	d, l := fresh(t, 60)
	add(t, l, paperOf("a", 1, "x", "y"), paperOf("b", 1, "x"))
	check(t, "Drop", l.Drop("b"), api.OK)
	check(t, "Hold", l.Hold("a", "case"), api.OK)
	check(t, "Release", l.Release("a", "case"), api.OK)
	for l.Left() > 1 {
		check(t, "Tick", l.Tick(1), api.OK)
	}
	rejected(t, "Point", d, l, api.ErrFull, func() api.Errno { _, err := l.Point(); return err })
	check(t, "Tick", l.Tick(0), api.OK)
	same(t, "left", l.Left(), 0)
	rejected(t, "Tick", d, l, api.ErrFull, func() api.Errno { return l.Tick(0) })
	rejected(t, "Erase", d, l, api.ErrFull, func() api.Errno { return l.Erase("a", "x") })
	rejected(t, "Drop", d, l, api.ErrFull, func() api.Errno { return l.Drop("a") })
	rejected(t, "Hold", d, l, api.ErrFull, func() api.Errno { return l.Hold("a", "case") })
	rejected(t, "Point", d, l, api.ErrFull, func() api.Errno { _, err := l.Point(); return err })
	rejected(t, "Append", d, l, api.ErrFull, func() api.Errno { _, err := l.Append(paperOf("c", 0, "x"), drawOf("")); return err })
	rejected(t, "Step", d, l, api.ErrFull, func() api.Errno { _, err := l.Step(); return err })
	rejected(t, "Drop of b", d, l, api.ErrErased, func() api.Errno { return l.Drop("b") })
	rejected(t, "Release", d, l, api.ErrName, func() api.Errno { return l.Release("a", "case") })
	rejected(t, "Tick", d, l, api.ErrClock, func() api.Errno { return l.Tick(-1) })
	checkGet(t, l, "a", "x y", "")
	same(t, "slots", heldFrom(d, 2, 9), []int{2})
	l = restart(t, d)
	same(t, "left", l.Left(), 0)
	check(t, "Sweep", l.Sweep(), api.OK)
	check(t, "Drop", l.Drop("a"), api.OK)
}

// The needs of events: a journal of known size is used by so many sectors.
func TestUsed(t *testing.T) {
	d, l := fresh(t, 600)
	add(t, l, paperOf("a", 0, "x", "y", "z"))
	e, _ := l.State().Entry(0)
	left := 267 - journal.Need(len(paperEvent(e)))
	same(t, "left", l.Left(), left)
	if _, err := l.Point(); err != api.OK {
		t.Error(err)
	}
	same(t, "left", l.Left(), left-2)
	_, first, second, _ := parts(d)
	same(t, "held sectors", len(heldFrom(d, first, second)), 267-left+2)
}
