package ledger_test

import (
	"fmt"
	"strings"
	"testing"

	"chartulary/api"
	"chartulary/disk"
	"chartulary/event"
	"chartulary/find"
	"chartulary/journal"
	"chartulary/keyring"
	"chartulary/ledger"
	"chartulary/mill"
	"chartulary/paper"
	"chartulary/pledge"
	"chartulary/policy"
	"chartulary/state"
	"chartulary/value"
)

// Promise 18.2: a paper is stored tidy, with a slip for each field, the time, and the first free slot.
func TestAppend(t *testing.T) {
	d, l := fresh(t, 600)
	check(t, "Tick", l.Tick(7), api.OK)
	p := api.Paper{ID: "a", Class: 2, Fields: []api.Field{
		{Name: "y", Value: value.Of(2.5)},
		{Name: "x", Value: api.Value{Kind: api.Bool, Flag: true, Int: 5, Text: "no use"}},
		{Name: "z", Value: api.Value{Kind: api.Float, Bits: 0x7ff8000000000009}},
		{Name: "A", Value: api.Value{Text: "no use"}},
	}}
	kept := api.Paper{ID: "a", Class: 2, Fields: append([]api.Field(nil), p.Fields...)}
	seq, err := l.Append(p, drawOf("a"))
	same(t, "number", seq, 0)
	check(t, "Append", err, api.OK)
	same(t, "the argument", p, kept)

	m := mill.New()
	tidy := paper.Tidy(p)
	want := api.Entry{ID: "a", Class: 2, Born: 7}
	for _, f := range tidy.Fields {
		want.Slips = append(want.Slips, pledge.Slip(m, drawOf("a"), "a", f.Name, value.Bytes(f.Value)))
	}
	got, err := l.State().Entry(0)
	check(t, "Entry", err, api.OK)
	same(t, "entry", event.Same(api.Event{Kind: api.EvPaper, Entry: got}, api.Event{Kind: api.EvPaper, Entry: want}), true)
	ring := ringOf(t, newGuard(t, d, 1000))
	key, err := ring.Get(0)
	check(t, "ring.Get", err, api.OK)
	same(t, "key", key, pledge.Key(m, drawOf("a")))
	same(t, "slots", heldFrom(d, 2, 66), []int{2})

	for range 2 {
		fields, lost, err := l.Get("a")
		check(t, "Get", err, api.OK)
		same(t, "fields", fields, tidy.Fields)
		same(t, "lost", lost, []string(nil))
		l = restart(t, d)
	}
}

// Promise 18.2: papers have the next numbers, and the first free slots.
func TestAppendMany(t *testing.T) {
	d, l := fresh(t, 200)
	ids := strings.Split("abcdefghijklmnopqrstuvwx", "")
	for i, id := range ids {
		seq, err := l.Append(paperOf(id, i%8, "x"), drawOf(id))
		same(t, "number", seq, i)
		check(t, "Append", err, api.OK)
		e, _ := l.State().Entry(seq)
		same(t, "slot", e.Slot, i)
	}
	_, err := l.Append(paperOf("y", 0, "x"), drawOf("y"))
	check(t, "Append without a slot", err, api.ErrFull)
	check(t, "Drop", l.Drop("e"), api.OK)
	check(t, "Drop", l.Drop("c"), api.OK)
	for i, id := range strings.Fields("y z") {
		seq, err := l.Append(paperOf(id, 0, "x"), drawOf(id))
		same(t, "number", seq, 24+i)
		check(t, "Append", err, api.OK)
		e, _ := l.State().Entry(seq)
		same(t, "slot", e.Slot, 2+2*i)
	}
	_, err = l.Append(paperOf("A", 0, "x"), drawOf("A"))
	check(t, "Append without a slot", err, api.ErrFull)
	same(t, "left", l.Left() > 4+3, true)
	l = restart(t, d)
	for _, id := range append(ids, "y", "z") {
		if id == "c" || id == "e" {
			checkGet(t, l, id, "", "x")
		} else {
			checkGet(t, l, id, "x", "")
		}
	}
}

// Promise 18.2: papers at the limits.
func TestAppendGreatest(t *testing.T) {
	d, l := fresh(t, 600)
	p := api.Paper{ID: strings.Repeat("I", api.MaxID), Class: 7}
	for i := range api.MaxFields {
		p.Fields = append(p.Fields, field(fmt.Sprintf("%02d%s", i, strings.Repeat("n", 14)), strings.Repeat("t", api.MaxText)))
	}
	left := l.Left()
	add(t, l, p)
	e, _ := l.State().Entry(0)
	need := journal.Need(len(paperEvent(e)))
	same(t, "left", l.Left(), left-need)
	if need < 80 {
		t.Errorf("the greatest paper needs %d sectors", need)
	}
	fields, lost, err := restart(t, d).Get(p.ID)
	check(t, "Get", err, api.OK)
	same(t, "fields", fields, p.Fields)
	same(t, "lost", len(lost), 0)
}

// Promise 18.2: 64 papers are the most, be they gone or not.
func TestAppendTooMany(t *testing.T) {
	d, l := fresh(t, api.MaxSectors)
	for i := range api.MaxPapers {
		add(t, l, paperOf(fmt.Sprint("p", i), 0, "x"))
		if i%3 == 0 {
			check(t, "Drop", l.Drop(fmt.Sprint("p", i)), api.OK)
		}
	}
	held := heldFrom(d, 2, 66)
	image := d.Image()
	_, err := l.Append(paperOf("q", 0, "x"), drawOf("q"))
	check(t, "Append", err, api.ErrFull)
	_, err = l.Append(paperOf("p0", 0, "x"), drawOf("q"))
	check(t, "Append of a paper that is gone", err, api.ErrTwice)
	same(t, "slots", len(held), 42)
	if d.Image() != image || l.State().Len() != api.MaxPapers {
		t.Error("something was stored")
	}
}

// Promise 18.2: the errors of Append, in their order; they change nothing.
func TestAppendErrors(t *testing.T) {
	d, l := fresh(t, 60)
	add(t, l, paperOf("a", 0, "x"))
	good, bad := drawOf("b"), drawOf("b")[1:]
	tell := func(what string, p api.Paper, draw string, want api.Errno) {
		t.Helper()
		image, acts, left, events := d.Image(), d.Acts(), l.Left(), l.State().Events()
		if seq, err := l.Append(p, draw); seq != 0 || err != want {
			t.Errorf("%s: Append = %d, %d, want %d", what, seq, err, want)
		}
		if d.Image() != image || d.Acts() != acts || l.Left() != left || l.State().Events() != events || len(l.Waits()) > 0 {
			t.Errorf("%s: something has changed", what)
		}
	}
	tell("no ID", paperOf("", 9, "x"), bad, api.ErrID)
	tell("no class", paperOf("a", 8, "x"), bad, api.ErrClass)
	tell("no fields", paperOf("a", 0), bad, api.ErrRange)
	tell("no name", paperOf("a", 0, "x", "y y"), bad, api.ErrName)
	tell("no value", api.Paper{ID: "a", Fields: []api.Field{{Name: "x", Value: api.Value{Kind: 5}}}}, bad, api.ErrValue)
	tell("a name twice", paperOf("a", 0, "x", "x"), bad, api.ErrTwice)
	for _, n := range []int{0, 1, 31, 33, 64} {
		tell("another draw", paperOf("a", 1, "x"), strings.Repeat("d", n), api.ErrArg)
	}
	tell("the ID twice", paperOf("a", 1, "x"), good, api.ErrTwice)
	for _, id := range strings.Fields("b c d e f g") {
		add(t, l, paperOf(id, 0, "x"))
	}
	tell("no slot", paperOf("h", 1, "x"), good, api.ErrFull)
	tell("no slot, and the ID twice", paperOf("g", 1, "x"), good, api.ErrTwice)
}

// Promise 18.2: a paper leaves four sectors, and needs no more.
func TestSpare(t *testing.T) {
	for names := 1; names <= 4; names++ {
		for ticks := range 12 {
			_, l := fresh(t, 60)
			for range ticks {
				check(t, "Tick", l.Tick(1), api.OK)
			}
			p := paperOf("a", 0, strings.Fields("v w x y")[:names]...)
			for i := 0; ; i++ {
				p.ID = fmt.Sprint("a", i)
				seq, left := l.State().Len(), l.Left()
				_, err := l.Append(p, drawOf("a"))
				if err == api.OK {
					if l.Left() < 4 {
						t.Fatalf("%d sectors are left", l.Left())
					}
					continue
				}
				check(t, "Append", err, api.ErrFull)
				same(t, "left", l.Left(), left)
				same(t, "papers", l.State().Len(), seq)
				if seq == 7 {
					break
				}
				e, _ := l.State().Entry(0)
				e.ID = p.ID
				e.Born = ticks
				if need := journal.Need(len(paperEvent(e))); need+4 <= left {
					t.Fatalf("Append = ErrFull, but there are %d sectors for %d", left, need)
				}
				break
			}
		}
	}
}

// A mill that no function made has no hashes, so that no paper is valid.
func TestAppendWithEmptyMill(t *testing.T) {
	d := formatted(t, 60)
	l, err := ledger.Open(d, &mill.Mill{}, retained)
	check(t, "Open", err, api.OK)
	image := d.Image()
	n, err := l.Append(paperOf("a", 0, "x"), drawOf("a"))
	same(t, "number", n, 0)
	check(t, "Append", err, api.ErrForm)
	p, err := l.Point()
	same(t, "checkpoint", p, api.Point{})
	check(t, "Point", err, api.ErrForm)
	if d.Image() != image || !l.Up() {
		t.Error("something has changed")
	}
}

// Promise 18.2: what was erased is told by its name only.
func TestGet(t *testing.T) {
	d, l := fresh(t, 600)
	add(t, l, paperOf("a", 0, "z", "x", "w", "y"), paperOf("b", 1, "x"))
	for _, c := range [][3]string{{"", "w x y z", ""}, {"x", "w y z", "x"}, {"z", "w y", "x z"}, {"w", "y", "w x z"}, {"y", "", "w x y z"}} {
		if c[0] != "" {
			check(t, "Erase", l.Erase("a", c[0]), api.OK)
		}
		checkGet(t, l, "a", c[1], c[2])
		l = restart(t, d)
		checkGet(t, l, "a", c[1], c[2])
		checkGet(t, l, "b", "x", "")
	}
	for _, id := range []string{"", "c", "A", "a ", strings.Repeat("a", 1000)} {
		fields, lost, err := l.Get(id)
		same(t, "fields", len(fields)+len(lost), 0)
		check(t, "Get", err, api.ErrNone)
	}
}

// Promise 18.2: Get, Papers and Find for data that does not match its pledges; what needs no key is told still.
func TestDamage(t *testing.T) {
	for what, spoil := range map[string]func(r *keyring.Ring, d *disk.Disk){
		"another key": func(r *keyring.Ring, d *disk.Disk) { r.Shred(1); r.Put(1, drawOf("other")) },
		"no key":      func(r *keyring.Ring, d *disk.Disk) { r.Shred(1) },
		"a torn key":  func(r *keyring.Ring, d *disk.Disk) { d.Write(3, strings.Repeat("t", 64)) },
	} {
		d, l := fresh(t, 600)
		add(t, l, paperOf("a", 0, "x"), paperOf("b", 0, "x", "y"), paperOf("c", 0, "x"))
		check(t, "Erase", l.Erase("b", "x"), api.OK)
		check(t, "Drop", l.Drop("c"), api.OK)
		spoil(ringOf(t, newGuard(t, d, 1000)), d)
		for range 2 {
			fields, lost, err := l.Get("b")
			same(t, what, len(fields)+len(lost), 0)
			check(t, what+": Get", err, api.ErrDamage)
			papers, err := l.Papers()
			same(t, what, len(papers), 0)
			check(t, what+": Papers", err, api.ErrDamage)
			found, err := l.Find(find.Query{Most: 9})
			same(t, what, len(found), 0)
			check(t, what+": Find", err, api.ErrDamage)
			s, err := l.Show("b", []string{"x", "y"}, 3)
			same(t, what, s, api.Show{})
			check(t, what+": Show", err, api.ErrDamage)
			_, err = l.Show("b", []string{"x"}, 3)
			check(t, what+": Show of what is erased", err, api.OK)
			checkGet(t, l, "a", "x", "")
			checkGet(t, l, "c", "", "x")
		}
		check(t, "Drop", l.Drop("b"), api.OK)
		checkGet(t, l, "b", "", "x y")
		same(t, "slots", heldFrom(d, 2, 66), []int{2})
	}
}

// stored is a ledger in which a paper a of one field x is stored with a pledge and a value's encoding, whose key is right.
func stored(t *testing.T, id, name, encoded string) *ledger.Ledger {
	t.Helper()
	m := mill.New()
	e := entryOf("a", 0)
	slip := pledge.Slip(m, drawOf("a"), id, name, encoded)
	slip.Name = "x"
	e.Slips = []api.Slip{slip}
	d := formatted(t, 600)
	g := newGuard(t, d, 1000)
	check(t, "Put", ringOf(t, g).Put(0, pledge.Key(m, drawOf("a"))), api.OK)
	j := journalOf(t, g)
	check(t, "Append", j.Append(paperEvent(e)), api.OK)
	check(t, "Flush", j.Flush(), api.OK)
	return open(t, d)
}

// Promise 18.2: a journal whose pledges are others, or are those of no value.
func TestDamagedJournal(t *testing.T) {
	good := value.Bytes(text("x"))
	checkGet(t, stored(t, "a", "x", good), "a", "x", "")
	for _, c := range [][3]string{{"b", "x", good}, {"a", "y", good}, {"a", "x", ""}, {"a", "x", good + "x"}, {"a", "x", "\x01\x05"}, {"a", "x", "\x01\x03\x7f\xf8\x00\x00\x00\x00\x00\x00"}} {
		l := stored(t, c[0], c[1], c[2])
		fields, _, err := l.Get("a")
		same(t, "fields", len(fields), 0)
		check(t, "Get", err, api.ErrDamage)
		_, err = l.Papers()
		check(t, "Papers", err, api.ErrDamage)
	}
}

// Promise 18.2.
func TestPapersAndFind(t *testing.T) {
	d, l := fresh(t, 600)
	papers, err := l.Papers()
	same(t, "papers", len(papers), 0)
	check(t, "Papers", err, api.OK)
	found, err := l.Find(find.Query{Most: 9})
	same(t, "found", len(found), 0)
	check(t, "Find", err, api.OK)

	var want []api.Paper
	for i := range 6 {
		p := api.Paper{ID: fmt.Sprint("p", i), Class: i, Fields: []api.Field{{Name: "n", Value: number(int64(i * 5 % 6))}, field("t", "t")}}
		want = append(want, p)
		add(t, l, p)
	}
	check(t, "Erase", l.Erase("p1", "n"), api.OK)
	check(t, "Drop", l.Drop("p3"), api.OK)
	want[1].Fields, want[3].Fields = want[1].Fields[1:], nil
	term := find.Term{Name: "n", Low: number(1), HasLow: true}
	for range 2 {
		papers, err = l.Papers()
		same(t, "papers", papers, want)
		check(t, "Papers", err, api.OK)
		for _, q := range []find.Query{
			{Most: 9}, {Most: 2}, {By: "n", Most: 9}, {By: "n", Down: true, Most: 3}, {Terms: []find.Term{term}, By: "n", Most: 9}, {Terms: []find.Term{{Name: "u"}}, Most: 9},
			{Most: -1}, {By: "no name"}, {Terms: []find.Term{{}}},
		} {
			got, err := l.Find(q)
			found, want := find.Run(q, want)
			same(t, "found", got, found)
			check(t, "Find", err, want)
		}
		found, _ = l.Find(find.Query{Terms: []find.Term{term}, By: "n", Most: 9})
		same(t, "found", found, []int{5, 4, 2})
		l = restart(t, d)
	}
}

// Results are new memory.
func TestResultsAreNew(t *testing.T) {
	_, l := fresh(t, 600)
	add(t, l, paperOf("a", 1, "x", "y"), paperOf("b", 2, "x"))
	check(t, "Erase", l.Erase("a", "x"), api.OK)
	fields, lost, _ := l.Get("a")
	fields[0], lost[0] = api.Field{}, "spoiled"
	papers, _ := l.Papers()
	papers[0].Fields[0] = api.Field{}
	papers[1] = api.Paper{}
	waits := l.Waits()
	waits[0] = policy.Due{}
	s, _ := l.Show("a", []string{"x", "y"}, 2)
	s.Items[0], s.Path[0] = api.Item{}, "spoiled"
	p, _ := l.Growth(1, 2)
	p[0] = "spoiled"
	checkGet(t, l, "a", "y", "x")
	same(t, "Waits", l.Waits(), []policy.Due{{Seq: 0, At: 5}, {Seq: 1, At: 10}})
	again, _ := l.Papers()
	same(t, "papers", again[0].Fields, []api.Field{field("y", "y")})
	p, _ = l.Growth(1, 2)
	same(t, "growth", len(p[0]), api.HashBytes)
	same(t, "the state is shared", l.State() == l.State() && state.Same(l.State(), l.State()), true)
}
