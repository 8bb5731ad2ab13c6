package ledger_test

import (
	"strings"
	"testing"

	"chartulary/api"
	"chartulary/disk"
	"chartulary/ledger"
	"chartulary/mill"
	"chartulary/octet"
	"chartulary/pledge"
	"chartulary/value"
)

// older are the sectors of the journal that have other bytes than zero, and were written no later than an act.
func older(d *disk.Disk, act int) []int {
	var l []int
	_, first, _, end := parts(d)
	for _, i := range heldFrom(d, first, end) {
		if d.Stamp(i) <= act {
			l = append(l, i)
		}
	}
	return l
}

// pieces are parts of a ciphertext, and of a key, of which none may be left.
func pieces(draw string, e api.Entry) []string {
	key := pledge.Key(mill.New(), draw)
	l := []string{key[:8], key[24:]}
	for _, s := range e.Slips {
		for i := 0; i+8 <= len(s.Cipher); i += 8 {
			l = append(l, s.Cipher[i:i+8])
		}
	}
	return l
}

// checkErased checks that nothing is left of a paper in slot 1 whose Drop began after an act, and that was swept.
func checkErased(t *testing.T, d *disk.Disk, act int, gone []string) {
	t.Helper()
	same(t, "sectors that were written before", older(d, act), []int(nil))
	same(t, "slot", sector(d, 3), zeros)
	image := d.Image()
	for _, s := range gone {
		if strings.Contains(image, s) {
			t.Errorf("%q is left", s)
		}
	}
}

// toErase is a ledger with a paper b in slot 1 that was told of in many records, and what must not be left of it.
func toErase(t *testing.T) (*disk.Disk, *ledger.Ledger, []string) {
	t.Helper()
	d, l := fresh(t, 100)
	add(t, l, paperOf("a", 0, "x", "y"))
	p := paperOf("b", 1, "x")
	p.Fields = append(p.Fields, field("z", strings.Repeat("secret", 30)))
	add(t, l, p)
	point(t, l)
	e, _ := l.State().Entry(1)
	gone := pieces(drawOf("b"), e)
	image := d.Image()
	found := 0
	for _, s := range gone {
		if strings.Contains(image, s) {
			found++
		}
	}
	// Most of them are there before; some are cut by the end of a sector.
	if found < len(gone)/2 || !strings.Contains(image, gone[0]) {
		t.Fatalf("%d of %d pieces are there before", found, len(gone))
	}
	return d, l, gone
}

// Promise 18.8.
func TestErased(t *testing.T) {
	d, l, gone := toErase(t)
	act := d.Acts()
	check(t, "Drop", l.Drop("b"), api.OK)
	same(t, "slot", sector(d, 3), zeros)
	check(t, "Sweep", l.Sweep(), api.OK)
	checkErased(t, d, act, gone)
	for tear := range 130 {
		d.Crash(disk.Fall{Keep: uint64(tear), Tear: tear})
		checkErased(t, d, act, gone)
		d.Start()
		l = open(t, d)
		checkErased(t, d, act, gone)
	}
	checkGet(t, l, "a", "x y", "")
	checkGet(t, l, "b", "", "x z")
}

// Promise 18.8: when the power fails between the begin of a Drop and the end of a Sweep, they only have to be called again; when it fails after that, nothing comes back.
func TestErasedInSpiteOfPowerLoss(t *testing.T) {
	done := 0
	for acts := 0; done < 600; acts++ {
		for _, keep := range []uint64{0, 1, 2, 5, 0xaaaaaaaa, 1<<64 - 1} {
			for _, tear := range []int{-1, 0, 20, 64 + 60, 64*3 + 1} {
				d, l, gone := toErase(t)
				act := d.Acts()
				d.Arm(acts, disk.Fall{Keep: keep, Tear: tear})
				err := erase(l)
				if err == api.OK {
					done++
					checkErased(t, d, act, gone)
				}
				for d.Up() {
					l.Tick(1)
					l.Sweep()
				}
				d.Start()
				l = open(t, d)
				if err != api.OK {
					check(t, "what was in progress", erase(l), api.OK)
				}
				checkErased(t, d, act, gone)
				checkGet(t, l, "a", "x y", "")
				checkGet(t, l, "b", "", "x z")
				if t.Failed() {
					t.Fatalf("%d acts, keep %x, tear %d", acts, keep, tear)
				}
			}
		}
	}
}

// erase drops the paper b and sweeps. It is dropped already if the power failed after that.
func erase(l *ledger.Ledger) api.Errno {
	if err := l.Drop("b"); err != api.OK && err != api.ErrErased {
		return err
	}
	return l.Sweep()
}

// A field that was erased is gone after a Sweep, while the others of its paper, and its key, are left.
func TestErasedField(t *testing.T) {
	d, l, _ := toErase(t)
	e, _ := l.State().Entry(1)
	cipher := e.Slips[0].Cipher
	check(t, "Erase", l.Erase("b", "x"), api.OK)
	same(t, "the ciphertext before", strings.Contains(d.Image(), cipher[:8]), true)
	act := d.Acts()
	check(t, "Sweep", l.Sweep(), api.OK)
	same(t, "sectors that were written before", older(d, act), []int(nil))
	for i := range len(cipher) - 8 {
		same(t, "the ciphertext afterwards", strings.Contains(d.Image(), cipher[i:i+8]), false)
	}
	_, lost, err := restart(t, d).Get("b")
	check(t, "Get", err, api.OK)
	same(t, "lost", lost, []string{"x"})
}

// xor is a string with every byte xored with that of two others.
func xor(a, b, c string) string {
	s := make([]byte, len(a))
	for i := range s {
		s[i] = a[i] ^ b[i] ^ c[i]
	}
	return string(s)
}

// lying is a mill by which the field n of the paper a has the pledge and the ciphertext for one value that another one has by a mill without a table.
func lying(t *testing.T, draw, one, other string) *mill.Mill {
	t.Helper()
	m := mill.New()
	key, salt := pledge.Key(m, draw), pledge.Salt(m, draw, "n")
	label := "field" + octet.Text("n") + "\x00\x00"
	// One block of the stream is longer than the salt and the value.
	rest := strings.Repeat("\x00", api.HashBytes-len(salt+one))
	stream := xor(m.Tag(key, label), salt+one+rest, salt+other+rest)
	text := "\x02" + octet.Text("a") + octet.Text("n") + octet.Text(salt) + octet.Text(one)
	m, err := mill.With([]mill.Entry{
		{Text: text, Out: pledge.Of(m, "a", "n", salt, other)},
		{Tag: true, Key: key, Text: label, Out: stream},
	})
	check(t, "With", err, api.OK)
	return m
}

// live does all kinds of things with a ledger whose paper a has this value; the power fails after so many acts.
func live(t *testing.T, d *disk.Disk, m *mill.Mill, n api.Value, acts int, f disk.Fall) {
	t.Helper()
	l, err := ledger.Open(d, m, retained)
	check(t, "Open", err, api.OK)
	p := paperOf("a", 1, "x", "y")
	p.Fields = append(p.Fields, api.Field{Name: "n", Value: n})
	d.Arm(acts, f)
	l.Append(paperOf("b", 0, "x"), drawOf("b"))
	l.Append(p, drawOf("a"))
	fields, _, err := l.Get("a")
	if err == api.OK {
		same(t, "value", fields[0], api.Field{Name: "n", Value: n})
	}
	l.Point()
	l.Erase("a", "x")
	l.Sweep()
	l.Tick(5)
	l.Erase("a", "n")
	l.Step()
	l.Step()
}

// Two ledgers whose papers have different values, but equal pledges and ciphertexts of them, have equal disks at all times.
func TestSameDisks(t *testing.T) {
	one, other := number(1), number(-7000)
	draw := drawOf("a")
	done := false
	for acts := 0; !done; acts++ {
		f := disk.Fall{Keep: 0x123456789abcdef, Tear: acts * 7 % 256}
		a, b := formatted(t, 100), formatted(t, 100)
		live(t, a, mill.New(), other, acts, f)
		live(t, b, lying(t, draw, value.Bytes(one), value.Bytes(other)), one, acts, f)
		done = a.Up()
		for i := range 100 {
			if a.Stamp(i) != b.Stamp(i) || sector(a, i) != sector(b, i) {
				t.Fatalf("after %d acts, sector %d is another one", acts, i)
			}
		}
	}
}
