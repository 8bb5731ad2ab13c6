package ledger_test

import (
	"fmt"
	"math/rand/v2"
	"slices"
	"strings"
	"testing"

	"chartulary/api"
	"chartulary/disk"
	"chartulary/find"
	"chartulary/ledger"
	"chartulary/mill"
	"chartulary/policy"
	"chartulary/value"
)

// randomValue is a value of any kind.
func randomValue(r *rand.Rand) api.Value {
	switch r.IntN(6) {
	case 0:
		return api.Value{}
	case 1:
		return api.Value{Kind: api.Bool, Flag: r.IntN(2) == 0}
	case 2:
		return number(r.Int64() >> r.IntN(64))
	case 3:
		return value.Of(r.NormFloat64())
	}
	return text(strings.Repeat(string(rune('a'+r.IntN(26))), r.IntN(201)))
}

// randomPaper is one of few fields more often than one of many; about one in ten is none.
func randomPaper(r *rand.Rand, ids int) api.Paper {
	p := api.Paper{ID: fmt.Sprint("p", r.IntN(ids)), Class: r.IntN(4)}
	if r.IntN(8) == 0 {
		p.Class = r.IntN(8)
	}
	for _, i := range r.Perm(12)[:1+r.IntN(1+r.IntN(12))] {
		p.Fields = append(p.Fields, api.Field{Name: string(rune('a' + i)), Value: randomValue(r)})
	}
	switch r.IntN(60) {
	case 0:
		p.ID = "no ID"
	case 1:
		p.Class = 8
	case 2:
		p.Fields = nil
	case 3:
		p.Fields = append(p.Fields, p.Fields[0])
	case 4:
		p.Fields[0].Value.Kind = 5
	case 5:
		p.Fields[0].Name = ""
	}
	return p
}

// randomQuery is a query about few fields.
func randomQuery(r *rand.Rand) find.Query {
	q := find.Query{By: []string{"", "a", "c", "no name"}[r.IntN(4)], Down: r.IntN(2) == 0, Most: r.IntN(10) - 1}
	if r.IntN(2) == 0 {
		q.Terms = append(q.Terms, find.Term{Name: "b", Low: number(0), HasLow: r.IntN(2) == 0, Not: r.IntN(2) == 0})
	}
	return q
}

// randomOp is an operation of a kind that is in a list, for a ledger with about so many papers.
func randomOp(r *rand.Rand, kinds []string, ids, papers int) op {
	o := op{kind: kinds[r.IntN(len(kinds))], paper: randomPaper(r, ids), draw: drawOf(fmt.Sprint(r.IntN(1000))), id: fmt.Sprint("p", r.IntN(ids)), query: randomQuery(r)}
	o.name = string(rune('a' + r.IntN(13)))
	o.names = []string{o.name, "b", "d"}
	o.a, o.b = r.IntN(papers+3)-1, r.IntN(papers+3)-1
	switch o.kind {
	case "append":
		if r.IntN(20) == 0 {
			o.draw = o.draw[1:]
		}
	case "hold", "release":
		o.name = []string{"u", "v", "w", "x", "y", ""}[r.IntN(6)]
	case "tick":
		o.a = r.IntN(8) - 1
	case "show":
		// Most proofs are by a checkpoint that there is.
		if r.IntN(4) > 0 {
			o.a = papers
		}
	}
	return o
}

// equal tells whether two things are told alike; empty lists are nil ones.
func equal(a, b any) bool {
	s, u := fmt.Sprintf("%+v", a), fmt.Sprintf("%+v", b)
	return s == u
}

// meet counts which kinds of operations ended with which errors.
type meet map[string]int

// run does operations with a ledger and a model, until the ledger fails or so many were done. If the power failed, it answers the models before and after the operation that was in progress, else the same model twice.
func run(t *testing.T, r *rand.Rand, l *ledger.Ledger, m *model, ids, steps int, met meet) (*model, *model) {
	t.Helper()
	kinds := append(slices.Clone(changing), asking...)
	for range steps {
		o := randomOp(r, kinds, ids, len(m.papers))
		after := m.clone()
		want, got := after.do(o), do(l, o)
		if got.err == api.ErrDown {
			if !equal(got, told{err: api.ErrDown}) || l.Up() {
				t.Fatalf("%+v: got %+v", o, got)
			}
			return m, after
		}
		met[fmt.Sprint(o.kind, " ", int(got.err), " ", got.n > 0)]++
		if !equal(got, want) {
			t.Fatalf("%+v:\ngot  %+v\nwant %+v", o, got, want)
		}
		if want.err != api.OK && !equal(m.seen(), after.seen()) {
			t.Fatalf("the model has changed in spite of an error")
		}
		m = after
		if a, b := seen(l), m.seen(); !equal(a, b) {
			t.Fatalf("%+v:\nseen %+v\nwant %+v", o, a, b)
		}
	}
	return m, m
}

// Promises 18.1 to 18.5, G1: without power losses, whatever the operations are, their answers are those of a ledger in memory.
func TestModel(t *testing.T) {
	met := meet{}
	for seed := range uint64(36) {
		r := rand.New(rand.NewPCG(18, seed))
		n := []int{10, 40, 100, 300, 600, 2000}[seed%6]
		p := policy.Policy{1: 5, 2: 10, 3: 1, 7: policy.MaxPeriod}
		d := formatted(t, n)
		l, err := ledger.Open(d, mill.New(), p)
		check(t, "Open", err, api.OK)
		run(t, r, l, newModel(n, p), 3+n/8, 300, met)
	}
	for _, s := range []string{
		"append 1 false", "append 5 false", "append 6 false", "append 10 false", "append 13 false", "append 14 false", "append 15 false", "append 16 false", "append 0 true",
		"get 0 false", "get 7 false", "papers 0 false", "find 0 false", "find 5 false", "find 14 false",
		"erase 0 false", "erase 6 false", "erase 7 false", "erase 11 false", "erase 12 false", "erase 14 false",
		"drop 0 false", "drop 6 false", "drop 7 false", "drop 11 false", "drop 12 false",
		"hold 0 false", "hold 6 false", "hold 7 false", "hold 10 false", "hold 12 false", "hold 14 false",
		"release 0 false", "release 6 false", "release 7 false", "release 14 false", "tick 0 false", "tick 6 false", "tick 24 false",
		"point 0 false", "point 6 false", "growth 0 false", "growth 21 false", "show 0 false", "show 7 false", "show 14 false", "show 21 false",
		"step 0 false", "step 0 true", "step 6 false", "sweep 0 false",
	} {
		if met[s] == 0 {
			t.Errorf("not met: %s", s)
		}
	}
}

// checkDisk checks that a disk has what the papers need, and nothing else: the journal at the begin of one side, and the keys.
func checkDisk(t *testing.T, d *disk.Disk, m *model) {
	t.Helper()
	_, first, second, end := parts(d)
	var slots []int
	for _, s := range m.seen().used {
		slots = append(slots, 2+s)
	}
	same(t, "slots", heldFrom(d, 2, first), slots)
	held := heldFrom(d, first, end)
	for i, k := range held {
		if len(held) != m.used || k != held[0]+i || held[0] != first && held[0] != second {
			t.Errorf("the journal has the sectors %v, want %d", held, m.used)
			break
		}
	}
	same(t, "the rest", heldFrom(d, end, d.Size()), []int(nil))
	same(t, "pending sectors", d.Waiting(), []int(nil))
}

// randomFall is a power loss of any kind.
func randomFall(r *rand.Rand) disk.Fall {
	keep := r.Uint64()
	switch r.IntN(4) {
	case 0:
		keep = 0
	case 1:
		keep = 1<<64 - 1
	}
	return disk.Fall{Keep: keep, Tear: r.IntN(64*8) - 64}
}

// Promise 18.7, G2: scripts of many boots, each of which ends with a power loss; so do many openings.
func TestManyBoots(t *testing.T) {
	met := meet{}
	p := policy.Policy{1: 5, 2: 10, 3: 1}
	for seed := range uint64(30) {
		r := rand.New(rand.NewPCG(180, seed))
		n := []int{10, 60, 100, 300}[seed%4]
		d := formatted(t, n)
		before, after := newModel(n, p), newModel(n, p)
		for range 30 {
			l := reopen(t, r, d, p)
			m := match(t, l, before, after)
			checkDisk(t, d, m)
			if t.Failed() {
				t.Fatalf("seed %d", seed)
			}
			d.Arm(r.IntN(60), randomFall(r))
			if r.IntN(3) == 0 {
				d.Arm(r.IntN(600), randomFall(r))
			}
			before, after = run(t, r, l, m, 3+n/8, 60, met)
			d.Crash(randomFall(r))
			if err := d.Start(); err != api.OK {
				t.Fatal(err)
			}
		}
	}
}

// reopen opens a ledger, after some attempts that end with a power loss.
func reopen(t *testing.T, r *rand.Rand, d *disk.Disk, p policy.Policy) *ledger.Ledger {
	t.Helper()
	for {
		if r.IntN(2) == 0 {
			d.Arm(r.IntN(8), randomFall(r))
		}
		l, err := ledger.Open(d, mill.New(), p)
		d.Calm()
		if err == api.OK {
			return l
		}
		if l != nil || err != api.ErrDown {
			t.Fatalf("Open = %v, %d", l, err)
		}
		check(t, "Start", d.Start(), api.OK)
	}
}

// match is that one of two models which a ledger is like.
func match(t *testing.T, l *ledger.Ledger, before, after *model) *model {
	t.Helper()
	s := seen(l)
	switch {
	case equal(s, after.seen()):
		return after
	case equal(s, before.seen()):
		return before
	}
	t.Fatalf("seen   %+v\nbefore %+v\nafter  %+v", s, before.seen(), after.seen())
	return nil
}

// script is one of each operation that writes.
func script() []op {
	long := api.Paper{ID: "c", Class: 2, Fields: []api.Field{field("x", strings.Repeat("x", 150)), field("y", "y")}}
	return []op{
		{kind: "append", paper: paperOf("a", 0, "x", "y"), draw: drawOf("a")},
		{kind: "append", paper: paperOf("b", 1, "x"), draw: drawOf("b")},
		{kind: "point"},
		{kind: "erase", id: "a", name: "x"},
		{kind: "hold", id: "a", name: "case"},
		{kind: "tick", a: 5},
		{kind: "step"},
		{kind: "step"},
		{kind: "append", paper: long, draw: drawOf("c")},
		{kind: "release", id: "a", name: "case"},
		{kind: "drop", id: "a"},
		{kind: "point"},
		{kind: "sweep"},
		{kind: "append", paper: paperOf("d", 1, "x"), draw: drawOf("d")},
	}
}

// play does the operations of the script until the power fails, and answers the models before and after the one that was in progress.
func play(t *testing.T, l *ledger.Ledger, m *model) (*model, *model) {
	t.Helper()
	for _, o := range script() {
		after := m.clone()
		want, got := after.do(o), do(l, o)
		if got.err == api.ErrDown {
			return m, after
		}
		if !equal(got, want) {
			t.Fatalf("%+v: %+v, want %+v", o, got, want)
		}
		m = after
	}
	return m, m
}

// falls are power losses that keep few of the pending sectors, or all, or most, and tear one of them.
func falls() []disk.Fall {
	var l []disk.Fall
	for _, keep := range []uint64{0, 1, 2, 4, 6, 0x5555, 0xaaaa, 1<<64 - 1, 1<<64 - 2} {
		for _, tear := range []int{-1, 0, 5, 64 + 40, 2*64 + 63, 3*64 + 8} {
			l = append(l, disk.Fall{Keep: keep, Tear: tear})
		}
	}
	return l
}

// Promise 18.7: at each act of a script, and at some of the opening afterwards, with every fall of a list.
func TestPowerFails(t *testing.T) {
	p := retained
	for _, f := range falls() {
		for acts := 0; ; acts++ {
			d, l := fresh(t, 60)
			d.Arm(acts, f)
			before, after := play(t, l, newModel(60, p))
			if d.Up() {
				break
			}
			d.Start()
			l = openAtLast(t, d, acts%7, f)
			m := match(t, l, before, after)
			checkDisk(t, d, m)
			again := restart(t, d)
			if !equal(seen(l), seen(again)) {
				t.Errorf("opening again yields %+v, not %+v", seen(again), seen(l))
			}
			checkDisk(t, d, m)
			// What was in progress can be done now, and the values are there.
			for _, id := range []string{"a", "b", "c", "d"} {
				if got, want := do(again, op{kind: "get", id: id}), m.do(op{kind: "get", id: id}); !equal(got, want) {
					t.Errorf("Get %s = %+v, want %+v", id, got, want)
				}
			}
			check(t, "Sweep", again.Sweep(), api.OK)
			if t.Failed() {
				t.Fatalf("%d acts, %+v", acts, f)
			}
		}
	}
}

// openAtLast opens a ledger; the first attempt ends with a power loss, if it has more than so many acts.
func openAtLast(t *testing.T, d *disk.Disk, acts int, f disk.Fall) *ledger.Ledger {
	t.Helper()
	d.Arm(acts, f)
	l, err := ledger.Open(d, mill.New(), retained)
	d.Calm()
	if err == api.OK {
		return l
	}
	check(t, "Open", err, api.ErrDown)
	d.Start()
	return open(t, d)
}

// Promise 18.9: nothing of a paper is erased while it is held, with power losses wherever they come.
func TestHeldInSpiteOfPowerLoss(t *testing.T) {
	for seed := range uint64(40) {
		r := rand.New(rand.NewPCG(189, seed))
		d, l := fresh(t, 300)
		add(t, l, paperOf("held", 1, "x", "y"), paperOf("p0", 1, "x"), paperOf("p1", 3, "x"))
		check(t, "Hold", l.Hold("held", "case"), api.OK)
		for range 6 {
			d.Arm(r.IntN(40), randomFall(r))
			for d.Up() {
				o := randomOp(r, changing, 9, 9)
				if o.kind == "drop" || o.kind == "erase" {
					o.id, o.name = "held", "x"
				}
				do(l, o)
				do(l, op{kind: "tick", a: 1})
				do(l, op{kind: "step"})
				do(l, op{kind: "sweep"})
			}
			d.Start()
			l = reopen(t, r, d, retained)
			checkGet(t, l, "held", "x y", "")
			same(t, "Waits", slices.ContainsFunc(l.Waits(), func(d policy.Due) bool { return d.Seq == 0 }), true)
		}
		if t.Failed() {
			t.Fatalf("seed %d", seed)
		}
	}
}
