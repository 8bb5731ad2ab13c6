package ledger_test

import (
	"strings"
	"testing"

	"chartulary/api"
	"chartulary/disk"
	"chartulary/event"
	"chartulary/find"
	"chartulary/guard"
	"chartulary/journal"
	"chartulary/ledger"
	"chartulary/mill"
	"chartulary/pledge"
	"chartulary/policy"
	"chartulary/state"
	"chartulary/super"
	"chartulary/value"
)

// Promise 18.1: a ledger that was just opened, on disks of all kinds of sizes.
func TestOpen(t *testing.T) {
	for _, n := range []int{10, 11, 60, 600, api.MaxSectors} {
		d, m := formatted(t, n), mill.New()
		l, err := ledger.Open(d, m, retained)
		check(t, "Open", err, api.OK)
		_, _, size := ledger.Plan(n)
		if !l.Up() || l.Mill() != m || l.Policy() != retained || l.Dirty() != 0 || l.Left() != size || len(l.Waits()) > 0 {
			t.Errorf("a new ledger: %v, %v, %d, %d, %v", l.Up(), l.Policy(), l.Dirty(), l.Left(), l.Waits())
		}
		if !state.Same(l.State(), state.New()) || l.State().Events() != 0 {
			t.Errorf("a new ledger has the state %v", l.State())
		}
		s, err := super.Load(d)
		check(t, "Load", err, api.OK)
		same(t, "superblock", s, super.Super{Gen: 2, Boot: 2, Side: 0, Seed: 1})
		same(t, "held sectors", heldFrom(d, 0, n), []int{0, 1})
		same(t, "pending sectors", d.Waiting(), []int(nil))
	}
}

// Promise 18.1: each opening has a boot of its own, to which belongs what is written afterwards.
func TestBoots(t *testing.T) {
	d := formatted(t, 60)
	_, first, _, _ := parts(d)
	for boot := 2; boot < 9; boot++ {
		l := open(t, d)
		s, err := super.Load(d)
		check(t, "Load", err, api.OK)
		same(t, "superblock", s, super.Super{Gen: boot, Boot: boot, Side: 0, Seed: 1})
		_, stamp, _ := guard.Read(d, boot%2)
		same(t, "stamp of the superblock", stamp, boot<<32+1)
		check(t, "Tick", l.Tick(1), api.OK)
		_, stamp, _ = guard.Read(d, first+boot-2)
		same(t, "stamp of the record", stamp, boot<<32+2)
	}
	same(t, "time", open(t, d).State().Now(), 7)
}

// Promise 18.1: the errors of Open, in their order.
func TestOpenErrors(t *testing.T) {
	bad := policy.Policy{3: -1}
	tell := func(what string, d *disk.Disk, m *mill.Mill, p policy.Policy, want api.Errno) {
		t.Helper()
		if l, err := ledger.Open(d, m, p); l != nil || err != want {
			t.Errorf("%s: Open = %v, %d, want %d", what, l, err, want)
		}
	}
	m := mill.New()
	d := formatted(t, 60)
	image, acts := d.Image(), d.Acts()
	tell("no mill", d, nil, retained, api.ErrArg)
	tell("period below 0", d, m, bad, api.ErrArg)
	tell("period too long", d, m, policy.Policy{7: policy.MaxPeriod + 1}, api.ErrArg)
	if d.Image() != image || d.Acts() != acts {
		t.Error("Open has changed a disk that it has not opened")
	}
	tell("no disk", nil, m, retained, api.ErrState)
	tell("no disk and no mill", nil, nil, retained, api.ErrArg)
	tell("no disk and no policy", nil, m, bad, api.ErrArg)
	tell("a disk that New did not create", &disk.Disk{}, m, retained, api.ErrState)
	tell("not formatted", newDisk(t, 60), m, retained, api.ErrNone)
	tell("one sector", newDisk(t, 1), m, retained, api.ErrRange)
	d.Crash(disk.Fall{})
	tell("no power", d, m, retained, api.ErrDown)
	tell("no power and no mill", d, nil, retained, api.ErrArg)
}

// saved is a disk that has a superblock.
func saved(t *testing.T, n int, s super.Super) *disk.Disk {
	t.Helper()
	d := newDisk(t, n)
	check(t, "Save", super.Save(newGuard(t, d, 1), s), api.OK)
	return d
}

// Promise 18.1: the last Boot and the last Gen.
func TestOpenAtLimits(t *testing.T) {
	const most = 1<<31 - 1
	for _, s := range []super.Super{
		{Gen: most, Boot: 5, Seed: 1}, {Gen: 5, Boot: most, Seed: 1}, {Gen: most, Boot: most, Side: 1, Seed: most},
	} {
		d := saved(t, 60, s)
		image, acts := d.Image(), d.Acts()
		fails(t, d, api.ErrFull)
		fails(t, d, api.ErrFull)
		if d.Image() != image || d.Acts() != acts {
			t.Errorf("Open with %v has changed the disk", s)
		}
	}
	d := saved(t, 60, super.Super{Gen: most - 1, Boot: most - 1, Side: 1, Seed: most - 1})
	l := open(t, d)
	add(t, l, paperOf("a", 0, "x"))
	checkGet(t, l, "a", "x", "")
	s, _ := super.Load(d)
	same(t, "superblock", s, super.Super{Gen: most, Boot: most, Side: 1, Seed: most - 1})
	fails(t, d, api.ErrFull)
}

// A superblock on a disk that is too small for a ledger.
func TestOpenOfTooSmall(t *testing.T) {
	for n := 2; n < 10; n++ {
		d := saved(t, n, super.Super{Gen: 1, Boot: 1, Seed: 1})
		image := d.Image()
		fails(t, d, api.ErrArg)
		if d.Image() != image {
			t.Errorf("Open has changed a disk of %d sectors", n)
		}
	}
}

// journalOf is the journal of the first side, with its first seed.
func journalOf(t *testing.T, g *guard.Guard) *journal.Journal {
	t.Helper()
	_, first, size := ledger.Plan(g.Disk().Size())
	j, err := journal.Open(g, first, size, 1)
	check(t, "journal.Open", err, api.OK)
	return j
}

// entryOf is a valid stored paper.
func entryOf(id string, slot int) api.Entry {
	m := mill.New()
	slip := pledge.Slip(m, drawOf(id), id, "x", value.Bytes(text("x")))
	return api.Entry{ID: id, Slot: slot, Slips: []api.Slip{slip}}
}

// goneEntry is a valid stored paper that is gone.
func goneEntry(id string, slot int) api.Entry {
	e := entryOf(id, slot)
	e.Gone = true
	e.Slips[0].Erased, e.Slips[0].Cipher = true, ""
	return e
}

// paperEvent is the event that adds a paper.
func paperEvent(e api.Entry) string {
	return event.Bytes(api.Event{Kind: api.EvPaper, Entry: e})
}

// Promise 18.1: a journal with a record that is not an event, or that is rejected.
func TestOpenOfWrongRecords(t *testing.T) {
	clock := event.Bytes(api.Event{Kind: api.EvClock, Now: 7})
	for _, c := range [][]string{
		{""}, {"x"}, {clock + "\x00"}, {clock, clock[:1]}, {clock, "\x01\x08"}, {strings.Repeat("\x01", api.MaxRecord)},
		{event.Bytes(api.Event{Kind: api.EvGone})},
		{clock, event.Bytes(api.Event{Kind: api.EvClock, Now: 6})},
		{paperEvent(entryOf("a", 0)), paperEvent(entryOf("a", 1))},
		{paperEvent(entryOf("a", 0)), paperEvent(entryOf("b", 0))},
		{event.Bytes(api.Event{Kind: api.EvPoint, Point: api.Point{Size: 1, Root: drawOf("root")}})},
	} {
		d := formatted(t, 600)
		g := newGuard(t, d, 1000)
		// The keys are there, so that it is the records that are wrong.
		r := ringOf(t, g)
		r.Put(0, drawOf("key"))
		r.Put(1, drawOf("key"))
		j := journalOf(t, g)
		for _, s := range c {
			check(t, "Append", j.Append(s), api.OK)
		}
		check(t, "Flush", j.Flush(), api.OK)
		_, first, _, end := parts(d)
		held := heldFrom(d, 2, end)
		fails(t, d, api.ErrDamage)
		fails(t, d, api.ErrDamage)
		same(t, "what was wiped of a damaged disk", heldFrom(d, 2, end), held)
		same(t, "the first one", held[2], first)
	}
}

// Promise 18.1: a record that is wrong behind the connected ones does not count, and is wiped.
func TestOpenOfUnconnected(t *testing.T) {
	d := formatted(t, 60)
	g := newGuard(t, d, 1000)
	j := journalOf(t, g)
	check(t, "Append", j.Append(event.Bytes(api.Event{Kind: api.EvClock, Now: 7})), api.OK)
	_, first, second, end := parts(d)
	for _, i := range []int{first + 1, first + 7, second - 1, second, end - 1} {
		g.Put(i, "wrong")
	}
	check(t, "Write", d.Write(first+9, strings.Repeat("t", 64)), api.OK)
	check(t, "Flush", g.Flush(), api.OK)
	l := open(t, d)
	same(t, "time", l.State().Now(), 7)
	same(t, "left", l.Left(), 24)
	same(t, "held sectors", heldFrom(d, 2, 60), []int{first})
	same(t, "pending sectors", d.Waiting(), []int(nil))
}

// Promise 18.1: the keys of papers that are not gone must be present; others are shredded.
func TestOpenOfKeys(t *testing.T) {
	key := pledge.Key(mill.New(), drawOf("a"))
	for _, c := range []struct {
		what string
		put  func(g *guard.Guard)
		want api.Errno
	}{
		{"the key", func(g *guard.Guard) { g.Put(3, key) }, api.OK},
		{"another key", func(g *guard.Guard) { g.Put(3, drawOf("other")) }, api.OK},
		{"no key", func(g *guard.Guard) {}, api.ErrDamage},
		{"its key in another slot", func(g *guard.Guard) { g.Put(2, key) }, api.ErrDamage},
		{"a short one", func(g *guard.Guard) { g.Put(3, key[1:]) }, api.ErrDamage},
		{"a long one", func(g *guard.Guard) { g.Put(3, key+"k") }, api.ErrDamage},
		{"a torn one", func(g *guard.Guard) { g.Disk().Write(3, strings.Repeat("t", 64)) }, api.ErrDamage},
	} {
		d := formatted(t, 60)
		g := newGuard(t, d, 1000)
		j := journalOf(t, g)
		for _, s := range []string{paperEvent(entryOf("a", 1)), paperEvent(goneEntry("b", 1)), paperEvent(goneEntry("c", 2))} {
			check(t, "Append", j.Append(s), api.OK)
		}
		// Slots that no paper uses, or only one that is gone.
		g.Put(4, drawOf("shred me"))
		g.Put(8, "shred me")
		d.Write(7, strings.Repeat("t", 64))
		c.put(g)
		check(t, "Flush", g.Flush(), api.OK)
		before := heldFrom(d, 2, 60)
		if c.want != api.OK {
			fails(t, d, c.want)
			fails(t, d, c.want)
			same(t, c.what+": held sectors", heldFrom(d, 2, 60), before)
			continue
		}
		l := open(t, d)
		same(t, "used slots", l.State().Used(), []int{1})
		same(t, c.what+": slots", heldFrom(d, 2, 9), []int{3})
		s, _, _ := guard.Read(d, 3)
		_, _, err := l.Get("a")
		if s == key {
			check(t, c.what+": Get", err, api.OK)
		} else {
			check(t, c.what+": Get", err, api.ErrDamage)
		}
		checkGet(t, l, "b", "", "x")
	}
}

// Promise 18.1: a paper in a slot that the disk does not have.
func TestOpenOfUnknownSlot(t *testing.T) {
	for _, slot := range []int{7, 8, 63} {
		d := formatted(t, 60)
		j := journalOf(t, newGuard(t, d, 1000))
		check(t, "Append", j.Append(paperEvent(goneEntry("b", slot))), api.OK)
		check(t, "Flush", j.Flush(), api.OK)
		checkGet(t, open(t, d), "b", "", "x")

		d = formatted(t, 60)
		g := newGuard(t, d, 1000)
		g.Put(2+slot, drawOf("key"))
		j = journalOf(t, g)
		check(t, "Append", j.Append(paperEvent(entryOf("a", slot))), api.OK)
		check(t, "Flush", j.Flush(), api.OK)
		fails(t, d, api.ErrDamage)
	}
}

// Promise 18.1: the other side is wiped, and slots are shredded, whatever they contain.
func TestOpenWipes(t *testing.T) {
	d, l := fresh(t, 61)
	add(t, l, paperOf("a", 0, "x"))
	_, first, second, end := parts(d)
	for _, side := range []int{0, 1} {
		other := [2]int{second, first}[side]
		for i := 3; i < first; i++ {
			d.Write(i, strings.Repeat("s", 64))
		}
		for i := other; i < other+second-first; i++ {
			d.Write(i, strings.Repeat("o", 64))
		}
		d.Flush()
		l = restart(t, d)
		same(t, "slots", heldFrom(d, 2, first), []int{2})
		same(t, "the other side", heldFrom(d, other, other+second-first), []int(nil))
		checkGet(t, l, "a", "x", "")
		check(t, "Sweep", l.Sweep(), api.OK)
	}
	same(t, "the rest", heldFrom(d, end, 61), []int(nil))
}

// Promise 18.1: what is told about a ledger that is opened again.
func TestOpenAgain(t *testing.T) {
	d, l := fresh(t, 600)
	add(t, l, paperOf("a", 0, "x", "y"), paperOf("b", 1, "x"), paperOf("c", 2, "x"))
	check(t, "Tick", l.Tick(3), api.OK)
	add(t, l, paperOf("d", 1, "x"), paperOf("e", 1, "x"))
	check(t, "Erase", l.Erase("a", "x"), api.OK)
	check(t, "Drop", l.Drop("e"), api.OK)
	check(t, "Hold", l.Hold("b", "case"), api.OK)
	if _, err := l.Point(); err != api.OK {
		t.Error(err)
	}
	for range 3 {
		same(t, "Dirty", l.Dirty(), 2)
		same(t, "Waits", l.Waits(), []policy.Due{{Seq: 1, At: 5}, {Seq: 3, At: 8}, {Seq: 2, At: 10}})
		for _, c := range []struct {
			id string
			at int
			ok bool
		}{{"a", 0, false}, {"b", 5, true}, {"c", 10, true}, {"d", 8, true}, {"e", 0, false}, {"f", 0, false}, {"", 0, false}} {
			if at, ok := l.Deadline(c.id); at != c.at || ok != c.ok {
				t.Errorf("Deadline(%s) = %d, %v", c.id, at, ok)
			}
		}
		again := restart(t, d)
		if !state.Same(l.State(), again.State()) || l.Left() != again.Left() || l.State().Events() != again.State().Events() {
			t.Errorf("%v is another state than %v", again.State(), l.State())
		}
		l = again
	}
	// Another policy lets other papers wait.
	l, err := ledger.Open(d, mill.New(), policy.Policy{0: 1, 2: policy.MaxPeriod})
	check(t, "Open", err, api.OK)
	same(t, "Waits", l.Waits(), []policy.Due{{Seq: 0, At: 1}, {Seq: 2, At: policy.MaxPeriod}})
}

// calls are all operations of a ledger, valid ones.
func calls(l *ledger.Ledger) map[string]func() (any, api.Errno) {
	return map[string]func() (any, api.Errno){
		"Append":  func() (any, api.Errno) { n, err := l.Append(paperOf("new", 0, "x"), drawOf("")); return n, err },
		"Papers":  func() (any, api.Errno) { v, err := l.Papers(); return len(v), err },
		"Find":    func() (any, api.Errno) { v, err := l.Find(find.Query{Most: 9}); return len(v), err },
		"Erase":   func() (any, api.Errno) { return 0, l.Erase("a", "x") },
		"Drop":    func() (any, api.Errno) { return 0, l.Drop("a") },
		"Hold":    func() (any, api.Errno) { return 0, l.Hold("a", "case") },
		"Release": func() (any, api.Errno) { return 0, l.Release("b", "case") },
		"Tick":    func() (any, api.Errno) { return 0, l.Tick(5) },
		"Point":   func() (any, api.Errno) { v, err := l.Point(); return v.Size, err },
		"Growth":  func() (any, api.Errno) { v, err := l.Growth(1, 2); return len(v), err },
		"Show":    func() (any, api.Errno) { v, err := l.Show("a", []string{"x"}, 1); return v.Size, err },
		"Step":    func() (any, api.Errno) { n, err := l.Step(); return n, err },
		"Sweep":   func() (any, api.Errno) { return 0, l.Sweep() },
		"Get": func() (any, api.Errno) {
			v, names, err := l.Get("a")
			return len(v) + len(names), err
		},
	}
}

// wrongCalls are operations that would be rejected for other reasons, too.
func wrongCalls(l *ledger.Ledger) []api.Errno {
	_, a := l.Append(api.Paper{}, "")
	_, _, b := l.Get("unknown")
	_, c := l.Find(find.Query{Most: -1})
	_, f := l.Growth(-1, -2)
	_, g := l.Show("unknown", nil, -1)
	return []api.Errno{a, b, c, l.Erase("unknown", ""), l.Drop("unknown"), l.Hold("a", ""), l.Release("a", ""), l.Tick(-1), f, g}
}

// Promise 18.6.
func TestNotOpened(t *testing.T) {
	for _, l := range []*ledger.Ledger{nil, {}} {
		for name, call := range calls(l) {
			if n, err := call(); n != 0 || err != api.ErrState {
				t.Errorf("%s = %v, %d", name, n, err)
			}
		}
		for i, err := range wrongCalls(l) {
			check(t, "wrong call "+string(rune('0'+i)), err, api.ErrState)
		}
		if l.Up() || l.State() != nil || l.Mill() != nil || l.Policy() != (policy.Policy{}) || l.Dirty() != 0 || l.Left() != 0 || l.Waits() != nil {
			t.Errorf("a ledger that Open did not create tells something")
		}
		if at, ok := l.Deadline("a"); at != 0 || ok {
			t.Errorf("Deadline = %d, %v", at, ok)
		}
	}
}

// filled is a ledger on which all operations would do something.
func filled(t *testing.T) (*disk.Disk, *ledger.Ledger) {
	t.Helper()
	d, l := fresh(t, 600)
	add(t, l, paperOf("a", 0, "x", "y"), paperOf("b", 0, "x"), paperOf("c", 1, "x"))
	check(t, "Hold", l.Hold("b", "case"), api.OK)
	check(t, "Tick", l.Tick(5), api.OK)
	return d, l
}

// Without power every operation returns ErrDown, and from then on, too, when the power is back.
func TestDead(t *testing.T) {
	for name := range calls(nil) {
		d, l := filled(t)
		if n, err := calls(l)[name](); err != api.OK {
			t.Errorf("%s = %v, %d", name, n, err)
		}
		d, l = filled(t)
		d.Crash(disk.Fall{})
		if l.Up() {
			t.Error("Up without power")
		}
		if n, err := calls(l)[name](); n != 0 || err != api.ErrDown {
			t.Errorf("%s without power = %v, %d", name, n, err)
		}
		d.Start()
		checkDead(t, l)
		checkDead(t, l)
		l = open(t, d)
		same(t, "papers", l.State().Len(), 3)
	}
}

// checkDead checks that a ledger is dead.
func checkDead(t *testing.T, l *ledger.Ledger) {
	t.Helper()
	if l.Up() {
		t.Error("a dead ledger is Up")
	}
	for name, call := range calls(l) {
		if n, err := call(); n != 0 || err != api.ErrDown {
			t.Errorf("%s of a dead ledger = %v, %d", name, n, err)
		}
	}
	for i, err := range wrongCalls(l) {
		check(t, "wrong call "+string(rune('0'+i)), err, api.ErrDown)
	}
	if l.State() == nil || l.Mill() == nil || l.Policy() != retained {
		t.Error("a dead ledger does not tell what it has")
	}
}

// A power loss between two operations loses nothing, so that the ledger goes on if it has not met it.
func TestPowerReturns(t *testing.T) {
	d, l := filled(t)
	d.Crash(disk.Fall{Tear: 30})
	d.Start()
	if !l.Up() {
		t.Error("not Up")
	}
	checkGet(t, l, "a", "x y", "")
	check(t, "Erase", l.Erase("a", "x"), api.OK)
	checkGet(t, restart(t, d), "a", "y", "x")
}

// Promise 18.1: a write that fails makes the ledger dead.
func TestDeadAfterWrite(t *testing.T) {
	for _, name := range []string{"Append", "Erase", "Drop", "Hold", "Release", "Tick", "Point", "Step", "Sweep"} {
		for acts := 0; ; acts++ {
			d, l := filled(t)
			d.Arm(acts, disk.Fall{Tear: -1})
			n, err := calls(l)[name]()
			if err == api.OK {
				if acts < 2 {
					t.Errorf("%s has only %d acts", name, acts)
				}
				break
			}
			if n != 0 || err != api.ErrDown {
				t.Errorf("%s = %v, %d", name, n, err)
			}
			d.Start()
			checkDead(t, l)
		}
	}
}
