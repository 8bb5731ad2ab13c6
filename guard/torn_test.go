package guard_test

import (
	"math/rand/v2"
	"strings"
	"testing"

	"chartulary/api"
	"chartulary/disk"
	"chartulary/guard"
)

// writing is what a Put or an Erase of a sector wrote completely.
type writing struct {
	erased bool
	data   string
	stamp  int
}

// wrote is what was written to a sector: the last one is the newest.
type wrote []writing

// do puts data, or erases, and tells what it wrote.
func do(t *testing.T, g *guard.Guard, i int, w writing) writing {
	t.Helper()
	if w.erased {
		check(t, "Erase", g.Erase(i), api.OK)
		return w
	}
	stamp, e := g.Put(i, w.data)
	check(t, "Put", e, api.OK)
	w.stamp = stamp
	return w
}

// checkOneOf checks that a sector has one of these writings completely, or is torn, and tells which one it has; -1: it is torn.
func checkOneOf(t *testing.T, d *disk.Disk, i int, l wrote) int {
	t.Helper()
	s, stamp, e := guard.Read(d, i)
	for k, w := range l {
		whole := w
		if e == api.ErrNone && s == "" && stamp == 0 {
			whole = writing{erased: true}
		} else if e == api.OK {
			whole = writing{data: s, stamp: stamp}
		} else {
			continue
		}
		if whole == w {
			return k
		}
	}
	if e != api.ErrTorn || s != "" || stamp != 0 {
		t.Fatalf("Read(%d) = %q, %d, %v, which is none of %v", i, s, stamp, e, l)
	}
	return -1
}

// writings are erasures and data that have bytes in common at their ends, or none.
func writings() []writing {
	l := []writing{{erased: true}}
	for _, s := range []string{"", "\x00", "a", "hello", strings.Repeat("x", 46), strings.Repeat("x", 47), strings.Repeat("y", 47), strings.Repeat("\x00", 47), strings.Repeat("x", 20) + strings.Repeat("y", 27)} {
		l = append(l, writing{data: s})
	}
	return l
}

// Promise 10.5: any writing over any other, torn after each byte: it is the old one, or the new one, or torn.
func TestTornAtEveryByte(t *testing.T) {
	for _, boots := range [][2]int{{1, 1}, {1, 2}, {255, 256}, {2, 1}, {guard.MaxBoot - 1, guard.MaxBoot}} {
		for _, old := range writings() {
			for _, last := range writings() {
				for tear := range 64 {
					d := newDisk(t, 1)
					g := newGuard(t, d, boots[0])
					l := wrote{do(t, g, 0, old)}
					check(t, "Flush", g.Flush(), api.OK)
					if boots[0] != boots[1] {
						g = newGuard(t, d, boots[1])
					}
					l = append(l, do(t, g, 0, last))
					d.Crash(disk.Fall{Tear: tear})
					d.Start()
					k := checkOneOf(t, d, 0, l)
					if tear >= 8 && tear <= 56 && k >= 0 && !(old.erased && last.erased) {
						t.Fatalf("%+v over %+v, torn at %d, is whole", last, old, tear)
					}
					if tear == 0 && k != 0 {
						t.Fatalf("%+v over %+v, none of it written, is %d", last, old, k)
					}
				}
			}
		}
	}
}

// Promise 10.5: a sector that is torn once more, by a later start, does not become whole of parts.
func TestTornTwice(t *testing.T) {
	for _, old := range writings()[:6] {
		for _, second := range writings()[:6] {
			for tear := range 64 {
				for again := range 64 {
					d := newDisk(t, 1)
					l := wrote{do(t, newGuard(t, d, 1), 0, old)}
					d.Flush()
					l = append(l, do(t, newGuard(t, d, 2), 0, second))
					d.Crash(disk.Fall{Tear: tear})
					d.Start()
					l = append(l, do(t, newGuard(t, d, 3), 0, writing{data: "third"}))
					d.Crash(disk.Fall{Tear: again})
					d.Start()
					checkOneOf(t, d, 0, l)
				}
			}
		}
	}
}

// act flushes, erases or puts at random, and moves what was written along.
func act(r *rand.Rand, g *guard.Guard, durable, pending []wrote) {
	i, kinds := r.IntN(len(durable)), writings()
	w := kinds[r.IntN(len(kinds))]
	switch {
	case r.IntN(6) == 0:
		if g.Flush() != api.OK {
			return
		}
		for k, l := range pending {
			if l != nil {
				durable[k], pending[k] = l, nil
			}
		}
	case w.erased:
		if g.Erase(i) == api.OK {
			pending[i] = wrote{w}
		}
	default:
		stamp, e := g.Put(i, w.data)
		if w.stamp = stamp; e == api.OK {
			pending[i] = wrote{w}
		}
	}
}

// Promises 10.1, 10.2 and 10.5: many starts, each of which ends by a power loss at some act.
func TestManyStarts(t *testing.T) {
	for seed := range uint64(300) {
		r := rand.New(rand.NewPCG(10, seed))
		n := 1 + r.IntN(5)
		d, durable := newDisk(t, n), make([]wrote, n)
		for i := range durable {
			durable[i] = wrote{{erased: true}}
		}
		for boot := 1; boot <= 12; boot++ {
			g, pending := newGuard(t, d, boot), make([]wrote, n)
			d.Arm(r.IntN(30), disk.Fall{Keep: r.Uint64() & r.Uint64(), Tear: r.IntN(64*n+100) - 50})
			for act(r, g, durable, pending); d.Up(); act(r, g, durable, pending) {
				for i, l := range pending {
					if l == nil {
						l = durable[i]
					}
					if k := checkOneOf(t, d, i, l); k < 0 && l != nil {
						t.Fatalf("seed %d, boot %d: sector %d is torn before the power failed", seed, boot, i)
					}
				}
			}
			check(t, "Start", d.Start(), api.OK)
			for i, l := range pending {
				l = append(l, durable[i]...)
				if k := checkOneOf(t, d, i, l); k >= 0 {
					durable[i] = l[k : k+1]
				} else {
					durable[i] = nil
				}
			}
		}
	}
}
