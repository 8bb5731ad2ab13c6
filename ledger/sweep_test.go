package ledger_test

import (
	"fmt"
	"strings"
	"testing"

	"chartulary/api"
	"chartulary/disk"
	"chartulary/event"
	"chartulary/journal"
	"chartulary/ledger"
	"chartulary/policy"
	"chartulary/state"
	"chartulary/super"
)

// Example 1.
func TestExampleOne(t *testing.T) {
	d, l := fresh(t, 600)
	add(t, l, paperOf("a", 0, "x", "y"))
	check(t, "Drop", l.Drop("a"), api.OK)
	checkStep(t, l, ledger.Swept)
	checkGet(t, l, "a", "", "x y")
	checkStep(t, l, ledger.Idle)
	checkGet(t, restart(t, d), "a", "", "x y")
}

// Example 3.
func TestExampleThree(t *testing.T) {
	d, l := fresh(t, 600)
	add(t, l, paperOf("a", 0, "x", "y"), paperOf("b", 1, "x"))
	check(t, "Erase", l.Erase("a", "x"), api.OK)
	if at, ok := l.Deadline("b"); at != 5 || !ok {
		t.Errorf("Deadline = %d, %v", at, ok)
	}
	check(t, "Tick", l.Tick(5), api.OK)
	checkStep(t, l, ledger.Wiped)
	checkStep(t, l, ledger.Swept)
	checkStep(t, l, ledger.Idle)
	l = restart(t, d)
	checkGet(t, l, "a", "y", "x")
	checkGet(t, l, "b", "", "x")
}

// Promises 18.5, 18.9: papers are dropped in the order of their deadlines, and then of their numbers, from the deadline on; then the journal is swept.
func TestStep(t *testing.T) {
	d, l := fresh(t, 600)
	add(t, l, paperOf("a", 2, "x"), paperOf("b", 1, "x"), paperOf("c", 0, "x"), paperOf("d", 1, "x"))
	check(t, "Tick", l.Tick(5), api.OK)
	add(t, l, paperOf("e", 1, "x"))
	var gone []string
	step := func(want int) {
		t.Helper()
		checkStep(t, l, want)
		for _, e := range l.State().Entries() {
			if e.Gone && !strings.Contains(strings.Join(gone, ""), e.ID) {
				gone = append(gone, e.ID)
			}
		}
	}
	step(ledger.Wiped)
	step(ledger.Wiped)
	same(t, "gone", gone, []string{"b", "d"})
	same(t, "Dirty", l.Dirty(), 2)
	step(ledger.Swept)
	same(t, "Dirty", l.Dirty(), 0)
	step(ledger.Idle)
	check(t, "Tick", l.Tick(4), api.OK)
	step(ledger.Idle)
	same(t, "gone", gone, []string{"b", "d"})
	check(t, "Tick", l.Tick(1), api.OK)
	l = restart(t, d)
	step(ledger.Wiped)
	same(t, "gone", gone, []string{"b", "d", "a"})
	// A paper that is due comes before a sweep.
	step(ledger.Wiped)
	same(t, "gone", gone, []string{"b", "d", "a", "e"})
	l = restart(t, d)
	step(ledger.Swept)
	step(ledger.Idle)
	check(t, "Tick", l.Tick(api.MaxClock-l.State().Now()), api.OK)
	step(ledger.Idle)
	checkGet(t, l, "c", "x", "")
	same(t, "Waits", l.Waits(), []policy.Due(nil))
}

// Promise 18.5: what was erased without being due is swept, too.
func TestStepAfterErase(t *testing.T) {
	d, l := fresh(t, 600)
	add(t, l, paperOf("a", 1, "x", "y"))
	checkStep(t, l, ledger.Idle)
	check(t, "Erase", l.Erase("a", "x"), api.OK)
	same(t, "Dirty", l.Dirty(), 1)
	l = restart(t, d)
	same(t, "Dirty", l.Dirty(), 1)
	checkStep(t, l, ledger.Swept)
	checkStep(t, l, ledger.Idle)
	l = restart(t, d)
	same(t, "Dirty", l.Dirty(), 0)
	checkStep(t, l, ledger.Idle)
	checkGet(t, l, "a", "y", "x")
}

// Promise 18.9: a paper that is held waits, and others don't wait for it; with the last hold it is dropped.
func TestStepOfHeld(t *testing.T) {
	d, l := fresh(t, 600)
	add(t, l, paperOf("a", 1, "x"), paperOf("b", 1, "x"), paperOf("c", 2, "x"))
	check(t, "Hold", l.Hold("a", "one"), api.OK)
	check(t, "Hold", l.Hold("a", "two"), api.OK)
	check(t, "Tick", l.Tick(7), api.OK)
	checkStep(t, l, ledger.Wiped)
	checkGet(t, l, "b", "", "x")
	checkStep(t, l, ledger.Swept)
	checkStep(t, l, ledger.Idle)
	check(t, "Release", l.Release("a", "one"), api.OK)
	l = restart(t, d)
	checkStep(t, l, ledger.Idle)
	checkGet(t, l, "a", "x", "")
	same(t, "Waits", l.Waits(), []policy.Due{{Seq: 0, At: 5}, {Seq: 2, At: 10}})
	check(t, "Release", l.Release("a", "two"), api.OK)
	checkStep(t, l, ledger.Wiped)
	checkGet(t, l, "a", "", "x")
	checkGet(t, l, "c", "x", "")
	checkStep(t, l, ledger.Swept)
}

// Promise 18.9: as many steps as there are due papers, and one more, erase all of them, and sweep.
func TestEnoughSteps(t *testing.T) {
	for n := range 20 {
		_, l := fresh(t, 600)
		due := 0
		for i := range n {
			id := fmt.Sprint("p", i)
			add(t, l, paperOf(id, i%3, "x"))
			if i%4 == 1 {
				check(t, "Hold", l.Hold(id, "case"), api.OK)
			} else if i%3 == 1 {
				due++
			}
		}
		check(t, "Tick", l.Tick(9), api.OK)
		for range due {
			checkStep(t, l, ledger.Wiped)
		}
		if due > 0 {
			checkStep(t, l, ledger.Swept)
		}
		checkStep(t, l, ledger.Idle)
		for i, e := range l.State().Entries() {
			same(t, "Gone", e.Gone, i%3 == 1 && i%4 != 1)
		}
	}
}

// snapshotNeed is how many sectors a snapshot of a ledger's state needs.
func snapshotNeed(l *ledger.Ledger) int {
	n := 0
	for _, v := range l.State().Snapshot() {
		n += journal.Need(len(event.Bytes(v)))
	}
	return n
}

// Promise 18.5: the snapshot goes to the other side, this one is wiped, and the state stays.
func TestSweep(t *testing.T) {
	d, l := fresh(t, 600)
	_, first, second, end := parts(d)
	add(t, l, paperOf("a", 1, "x", "y"), paperOf("b", 1, "x"), paperOf("c", 2, "x"))
	check(t, "Tick", l.Tick(3), api.OK)
	check(t, "Hold", l.Hold("a", "case"), api.OK)
	check(t, "Erase", l.Erase("c", "x"), api.OK)
	check(t, "Drop", l.Drop("b"), api.OK)
	point(t, l)
	want := state.New()
	for _, v := range l.State().Snapshot() {
		check(t, "Apply", want.Apply(v), api.OK)
	}
	gen := 2
	for i := range 6 {
		acts, events, waits := d.Acts(), l.State().Events(), l.Waits()
		check(t, "Sweep", l.Sweep(), api.OK)
		gen++
		s, err := super.Load(d)
		check(t, "Load", err, api.OK)
		side := 1 - i%2
		same(t, "superblock", s, super.Super{Gen: gen, Boot: s.Boot, Side: side, Seed: gen})
		need := snapshotNeed(l)
		same(t, "left", l.Left(), 267-need)
		from := [2]int{first, second}[side]
		held := heldFrom(d, first, end)
		if len(held) != need || held[0] != from || held[need-1] != from+need-1 {
			t.Errorf("the journal has the sectors %v", held)
		}
		for _, k := range held {
			if d.Stamp(k) <= acts {
				t.Errorf("sector %d was written by the act %d, before %d", k, d.Stamp(k), acts)
			}
		}
		same(t, "Dirty", l.Dirty(), 0)
		same(t, "events", l.State().Events(), events)
		same(t, "Waits", l.Waits(), waits)
		same(t, "pending sectors", d.Waiting(), []int(nil))
		same(t, "the same state", state.Same(l.State(), want), true)
		if i%3 == 2 {
			l = restart(t, d)
			gen++
		}
		same(t, "the same state", state.Same(l.State(), want), true)
	}
	// It goes on.
	add(t, l, paperOf("d", 1, "x"))
	checkGet(t, l, "a", "x y", "")
	l = restart(t, d)
	checkGet(t, l, "a", "x y", "")
	checkGet(t, l, "c", "", "x")
	checkGet(t, l, "d", "x", "")
}

// Promise 18.5: an empty ledger is swept, too.
func TestSweepOfNothing(t *testing.T) {
	d, l := fresh(t, 10)
	for range 5 {
		check(t, "Sweep", l.Sweep(), api.OK)
		same(t, "left", l.Left(), 2)
	}
	same(t, "papers", restart(t, d).State().Len(), 0)
}

// Promise 18.5: a snapshot that does not fit. Without a Tick it has one event more than the journal, so that a journal that is full is not swept.
func TestSweepOfTooMuch(t *testing.T) {
	full, fitting := 0, 0
	for n := 50; n < 70; n++ {
		d, l := fresh(t, n)
		add(t, l, paperOf("a", 1, "x"))
		for l.Left() >= 2 {
			point(t, l)
		}
		_, first, second, end := parts(d)
		for range 2 {
			if l.Left() == 1 {
				check(t, "Sweep", l.Sweep(), api.OK)
				same(t, "left", l.Left(), 0)
				fitting++
				break
			}
			full++
			before, err := super.Load(d)
			check(t, "Load", err, api.OK)
			held, snapshot := sector(d, first)+sector(d, second-1), l.State().Snapshot()
			check(t, "Sweep", l.Sweep(), api.ErrFull)
			after, err := super.Load(d)
			check(t, "Load", err, api.OK)
			same(t, "superblock", after, before)
			same(t, "the other side", heldFrom(d, second, end), []int(nil))
			same(t, "this side", sector(d, first)+sector(d, second-1), held)
			same(t, "snapshot", l.State().Snapshot(), snapshot)
			same(t, "left", l.Left(), 0)
			same(t, "pending sectors", d.Waiting(), []int(nil))
			if !l.Up() {
				t.Error("not Up")
			}
			checkGet(t, l, "a", "x", "")
			checkStep(t, l, ledger.Idle)
			l = restart(t, d)
		}
		checkGet(t, restart(t, d), "a", "x", "")
	}
	if full == 0 || fitting == 0 {
		t.Errorf("%d snapshots did not fit, %d did", full, fitting)
	}
}

// Promise 18.5: the last Gen.
func TestSweepAtLimit(t *testing.T) {
	const most = 1<<31 - 1
	d := saved(t, 600, super.Super{Gen: most - 3, Boot: 5, Side: 1, Seed: 7})
	l := open(t, d)
	add(t, l, paperOf("a", 0, "x", "y"))
	check(t, "Sweep", l.Sweep(), api.OK)
	check(t, "Erase", l.Erase("a", "x"), api.OK)
	checkStep(t, l, ledger.Swept)
	s, _ := super.Load(d)
	same(t, "superblock", s, super.Super{Gen: most, Boot: 6, Side: 1, Seed: most})
	check(t, "Erase", l.Erase("a", "y"), api.OK)
	rejected(t, "Sweep", d, l, api.ErrFull, l.Sweep)
	rejected(t, "Step", d, l, api.ErrFull, func() api.Errno {
		n, err := l.Step()
		same(t, "step", n, 0)
		return err
	})
	checkGet(t, l, "a", "", "x y")
	check(t, "Drop", l.Drop("a"), api.OK)
}

// Promises 18.5, 18.7: when the power fails while it turns out that a snapshot does not fit, everything is as before.
func TestPowerFailsDuringSweepOfTooMuch(t *testing.T) {
	for acts := 0; ; acts++ {
		d, l := fresh(t, 58)
		add(t, l, paperOf("a", 1, "x"))
		for l.Left() >= 2 {
			point(t, l)
		}
		if l.Left() > 0 {
			t.Fatalf("%d sectors are left, so that the snapshot fits", l.Left())
		}
		d.Arm(acts, disk.Fall{Keep: 0xf0f1, Tear: 64 + 30})
		err := l.Sweep()
		d.Calm()
		if err == api.ErrFull {
			return
		}
		check(t, "Sweep", err, api.ErrDown)
		d.Start()
		checkDead(t, l)
		again := open(t, d)
		same(t, "the same state", state.Same(l.State(), again.State()), true)
		same(t, "left", again.Left(), 0)
		_, first, second, end := parts(d)
		same(t, "this side", len(heldFrom(d, first, second)), second-first)
		same(t, "the other side", heldFrom(d, second, end), []int(nil))
		checkGet(t, again, "a", "x", "")
	}
}
