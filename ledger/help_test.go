package ledger_test

import (
	"reflect"
	"strings"
	"testing"

	"chartulary/api"
	"chartulary/disk"
	"chartulary/guard"
	"chartulary/keyring"
	"chartulary/ledger"
	"chartulary/mill"
	"chartulary/policy"
)

// retained is the policy of most tests: class 1 is retained for 5, class 2 for 10.
var retained = policy.Policy{1: 5, 2: 10}

// zeros is a sector of zero bytes.
var zeros = strings.Repeat("\x00", api.SectorBytes)

// newDisk is a disk of n sectors.
func newDisk(t *testing.T, n int) *disk.Disk {
	t.Helper()
	d, err := disk.New(n)
	if err != api.OK {
		t.Fatalf("disk.New(%d): %d", n, err)
	}
	return d
}

// formatted is a disk of n sectors that was formatted.
func formatted(t *testing.T, n int) *disk.Disk {
	t.Helper()
	d := newDisk(t, n)
	check(t, "Format", ledger.Format(d), api.OK)
	return d
}

// open opens the ledger on a disk with the policy of most tests.
func open(t *testing.T, d *disk.Disk) *ledger.Ledger {
	t.Helper()
	l, err := ledger.Open(d, mill.New(), retained)
	if l == nil || err != api.OK {
		t.Fatalf("Open = %v, %d", l, err)
	}
	return l
}

// fresh is a new ledger on a disk of n sectors.
func fresh(t *testing.T, n int) (*disk.Disk, *ledger.Ledger) {
	t.Helper()
	d := formatted(t, n)
	return d, open(t, d)
}

// fails checks that the ledger on a disk can't be opened.
func fails(t *testing.T, d *disk.Disk, want api.Errno) {
	t.Helper()
	if l, err := ledger.Open(d, mill.New(), retained); l != nil || err != want {
		t.Errorf("Open = %v, %d, want nil, %d", l, err, want)
	}
}

// newGuard is a guard of a disk.
func newGuard(t *testing.T, d *disk.Disk, boot int) *guard.Guard {
	t.Helper()
	g, err := guard.New(d, boot)
	if err != api.OK {
		t.Fatalf("guard.New(.., %d): %d", boot, err)
	}
	return g
}

// ringOf is the slots of a disk.
func ringOf(t *testing.T, g *guard.Guard) *keyring.Ring {
	t.Helper()
	slots, _, _ := ledger.Plan(g.Disk().Size())
	r, err := keyring.New(g, 2, slots)
	if err != api.OK {
		t.Fatalf("keyring.New: %d", err)
	}
	return r
}

// restart lets the power fail, and opens the ledger again.
func restart(t *testing.T, d *disk.Disk) *ledger.Ledger {
	t.Helper()
	check(t, "Crash", d.Crash(disk.Fall{Tear: -1}), api.OK)
	check(t, "Start", d.Start(), api.OK)
	return open(t, d)
}

// check checks how a call ended.
func check(t *testing.T, what string, got, want api.Errno) {
	t.Helper()
	if got != want {
		t.Errorf("%s = %d, want %d", what, got, want)
	}
}

// same checks what a call answered; an empty list is a nil one.
func same(t *testing.T, what string, got, want any) {
	t.Helper()
	g, w := reflect.ValueOf(got), reflect.ValueOf(want)
	if g.Kind() == reflect.Slice && w.Kind() == reflect.Slice && g.Len()+w.Len() == 0 {
		return
	}
	if !reflect.DeepEqual(got, want) {
		t.Errorf("%s = %+v, want %+v", what, got, want)
	}
}

// drawOf is a draw.
func drawOf(s string) string {
	return (s + strings.Repeat("d", api.DrawBytes))[:api.DrawBytes]
}

// text is a text as a value.
func text(s string) api.Value {
	return api.Value{Kind: api.Text, Text: s}
}

// number is an integer as a value.
func number(n int64) api.Value {
	return api.Value{Kind: api.Int, Int: n}
}

// field is a field with a text.
func field(name, s string) api.Field {
	return api.Field{Name: name, Value: text(s)}
}

// paperOf is a paper whose fields have their names as values.
func paperOf(id string, class int, names ...string) api.Paper {
	p := api.Paper{ID: id, Class: class}
	for _, name := range names {
		p.Fields = append(p.Fields, field(name, name))
	}
	return p
}

// add appends papers, whose draws are their IDs.
func add(t *testing.T, l *ledger.Ledger, papers ...api.Paper) {
	t.Helper()
	for _, p := range papers {
		if _, err := l.Append(p, drawOf(p.ID)); err != api.OK {
			t.Fatalf("Append(%v): %d", p, err)
		}
	}
}

// checkGet checks what Get answers: the fields that are left, and the names of the others, both separated by blanks.
func checkGet(t *testing.T, l *ledger.Ledger, id, left, lost string) {
	t.Helper()
	fields, names, err := l.Get(id)
	var want []api.Field
	for _, name := range strings.Fields(left) {
		want = append(want, field(name, name))
	}
	check(t, "Get "+id, err, api.OK)
	same(t, "fields of "+id, fields, want)
	same(t, "lost of "+id, names, strings.Fields(lost))
}

// checkStep checks what a step did.
func checkStep(t *testing.T, l *ledger.Ledger, want int) {
	t.Helper()
	if got, err := l.Step(); got != want || err != api.OK {
		t.Errorf("Step = %d, %d, want %d", got, err, want)
	}
}

// sector is the durable contents of a sector.
func sector(d *disk.Disk, i int) string {
	return d.Image()[i*api.SectorBytes : (i+1)*api.SectorBytes]
}

// heldFrom are the sectors from one to before another that have other bytes than zero.
func heldFrom(d *disk.Disk, from, to int) []int {
	var l []int
	image := d.Image()
	for i := from; i < to; i++ {
		if image[i*api.SectorBytes:(i+1)*api.SectorBytes] != zeros {
			l = append(l, i)
		}
	}
	return l
}

// parts are where the slots and the sides of a disk begin, and where the second side ends.
func parts(d *disk.Disk) (int, int, int, int) {
	_, first, size := ledger.Plan(d.Size())
	return 2, first, first + size, first + 2*size
}
