package disk_test

import (
	"math/rand/v2"
	"slices"
	"strconv"
	"strings"
	"testing"

	"chartulary/api"
	"chartulary/disk"
)

// write is a write of which the model knows that it succeeded.
type write struct {
	act, sector int
	text        string
}

// model is a disk that keeps its writes one after the other, and its durable bytes one by one.
type model struct {
	image  []byte
	stamps []int
	writes []write // since the last flush or power loss
	down   bool
	acts   int
	falls  int
	left   int // acts until the power fails; below 0: no power loss is scheduled
	fall   disk.Fall
}

func newModel(n int) *model {
	return &model{image: make([]byte, 64*n), stamps: make([]int, n), left: -1}
}

// last is the last pending write to a sector; its act is 0 if there is none.
func (m *model) last(i int) write {
	for _, w := range slices.Backward(m.writes) {
		if w.sector == i {
			return w
		}
	}
	return write{}
}

func (m *model) waiting() []int {
	var l []int
	for i := range m.stamps {
		if m.last(i).act > 0 {
			l = append(l, i)
		}
	}
	return l
}

func (m *model) read(i int) (string, api.Errno) {
	switch {
	case m.down:
		return "", api.ErrDown
	case i < 0 || i >= len(m.stamps):
		return "", api.ErrRange
	case m.last(i).act > 0:
		return m.last(i).text, api.OK
	}
	return string(m.image[64*i : 64*i+64]), api.OK
}

// settle makes the first n bytes of a pending sector durable.
func (m *model) settle(i, n int) {
	w := m.last(i)
	m.stamps[i] = w.act
	for b := range n {
		m.image[64*i+b] = w.text[b]
	}
}

func (m *model) crash(f disk.Fall) api.Errno {
	if m.down {
		return api.ErrDown
	}
	for k, i := range m.waiting() {
		if bits := strconv.FormatUint(f.Keep, 2); k%64 < len(bits) && bits[len(bits)-1-k%64] == '1' {
			m.settle(i, 64)
		}
		if n := f.Tear - 64*k; f.Tear >= 0 && n >= 0 && n < 64 {
			m.settle(i, n)
		}
	}
	m.writes, m.down, m.left = nil, true, -1
	m.falls++
	return api.OK
}

// act tells how an act ends that is not rejected otherwise.
func (m *model) act() api.Errno {
	if m.left == 0 {
		m.crash(m.fall)
		return api.ErrDown
	}
	m.left = max(m.left-1, -1)
	m.acts++
	return api.OK
}

func (m *model) write(i int, s string) api.Errno {
	if _, e := m.read(i); e != api.OK {
		return e
	}
	if len(s) != 64 {
		return api.ErrArg
	}
	e := m.act()
	if e == api.OK {
		m.writes = append(m.writes, write{m.acts, i, s})
	}
	return e
}

func (m *model) flush() api.Errno {
	if m.down {
		return api.ErrDown
	}
	e := m.act()
	if e == api.OK {
		for _, i := range m.waiting() {
			m.settle(i, 64)
		}
		m.writes = nil
	}
	return e
}

func (m *model) arm(acts int, f disk.Fall) api.Errno {
	switch {
	case m.down:
		return api.ErrDown
	case acts < 0:
		return api.ErrArg
	}
	m.left, m.fall = acts, f
	return api.OK
}

func (m *model) start() api.Errno {
	if !m.down {
		return api.ErrThere
	}
	m.down = false
	return api.OK
}

// check compares all that a disk tells with what the model tells.
func (m *model) check(t *testing.T, what string, d *disk.Disk) {
	t.Helper()
	if d.Size() != len(m.stamps) || d.Up() == m.down || d.Acts() != m.acts || d.Falls() != m.falls {
		t.Errorf("%s: %d sectors, up %v, %d acts, %d falls, want %d, %v, %d, %d",
			what, d.Size(), d.Up(), d.Acts(), d.Falls(), len(m.stamps), !m.down, m.acts, m.falls)
	}
	if got := d.Waiting(); !slices.Equal(got, m.waiting()) {
		t.Errorf("%s: Waiting = %v, want %v", what, got, m.waiting())
	}
	if d.Image() != string(m.image) {
		t.Errorf("%s: the image is another one", what)
	}
	for i := -1; i <= len(m.stamps); i++ {
		stamp := 0
		if i >= 0 && i < len(m.stamps) {
			stamp = m.stamps[i]
		}
		if got := d.Stamp(i); got != stamp {
			t.Errorf("%s: Stamp(%d) = %d, want %d", what, i, got, stamp)
		}
		want, e := m.read(i)
		if got, g := d.Read(i); got != want || g != e {
			t.Errorf("%s: Read(%d) = %q, %v, want %q, %v", what, i, got, g, want, e)
		}
	}
}

// anyText is a sector's text, now and then of a wrong length.
func anyText(r *rand.Rand) string {
	s := make([]byte, 64)
	for i := range s {
		s[i] = byte(r.Uint32())
	}
	switch r.IntN(20) {
	case 0:
		return string(s[:r.IntN(64)])
	case 1:
		return string(s) + "x"
	}
	return string(s)
}

// anyFall is a power loss that tears one of n sectors, or none, or one that is not there.
func anyFall(r *rand.Rand, n int) disk.Fall {
	f := disk.Fall{Keep: r.Uint64() & r.Uint64(), Tear: r.IntN(64*n+200) - 100}
	switch r.IntN(8) {
	case 0:
		f.Keep = 0
	case 1:
		f.Keep = 1<<64 - 1
	}
	return f
}

// step does one thing to the disk and to the model, and tells what it was and how both ended.
func step(r *rand.Rand, d *disk.Disk, m *model) (what string, got, want api.Errno) {
	n := len(m.stamps)
	switch r.IntN(12) {
	case 0:
		return "Flush", d.Flush(), m.flush()
	case 1:
		f := anyFall(r, n)
		return "Crash", d.Crash(f), m.crash(f)
	case 2:
		acts, f := r.IntN(10)-1, anyFall(r, n)
		return "Arm", d.Arm(acts, f), m.arm(acts, f)
	case 3:
		if r.IntN(4) > 0 {
			return "nothing", 0, 0
		}
		d.Calm()
		m.left = -1
		return "Calm", 0, 0
	case 4:
		return "Start", d.Start(), m.start()
	}
	i, s := r.IntN(n+2)-1, anyText(r)
	return "Write", d.Write(i, s), m.write(i, s)
}

// Promises 9.1 to 9.3: all that is told is as the model tells it, whatever happens.
func TestModel(t *testing.T) {
	for seed := range uint64(300) {
		r := rand.New(rand.NewPCG(9, seed))
		n := 1 + r.IntN(6)
		d, m := newDisk(t, n), newModel(n)
		m.check(t, "at first", d)
		for k := range 150 {
			what, got, want := step(r, d, m)
			if got != want {
				t.Errorf("%s = %v, want %v", what, got, want)
			}
			m.check(t, what, d)
			if t.Failed() {
				t.Fatalf("seed %d, step %d, %d sectors", seed, k, n)
			}
		}
	}
}

// Promise 9.2: all power losses at all acts of a script, with all that is torn.
func TestModelOfAllFalls(t *testing.T) {
	script := func(d interface {
		write(i int, s string) api.Errno
		flush() api.Errno
	}) {
		for _, s := range []string{"2a", "0b", "-", "0c", "3d", "2e", "0f", "3g", "-", "-", "1h"} {
			if s == "-" {
				d.flush()
			} else {
				d.write(int(s[0]-'0'), strings.Repeat(s[1:], 64))
			}
		}
	}
	for acts := range 13 {
		for keep := range uint64(16) {
			for tear := -1; tear <= 4*64; tear++ {
				d, m, f := newDisk(t, 4), newModel(4), disk.Fall{Keep: keep, Tear: tear}
				d.Arm(acts, f)
				m.arm(acts, f)
				script(calls{d})
				script(m)
				if m.check(t, "after all", d); t.Failed() {
					t.Fatalf("Arm(%d, %+v)", acts, f)
				}
			}
		}
	}
}

// calls are a disk's calls, named as the model names them.
type calls struct {
	*disk.Disk
}

func (c calls) write(i int, s string) api.Errno { return c.Write(i, s) }

func (c calls) flush() api.Errno { return c.Flush() }
