package ledger_test

import (
	"maps"
	"slices"
	"strings"

	"chartulary/api"
	"chartulary/event"
	"chartulary/find"
	"chartulary/journal"
	"chartulary/ledger"
	"chartulary/merkle"
	"chartulary/mill"
	"chartulary/paper"
	"chartulary/pledge"
	"chartulary/policy"
	"chartulary/sheet"
	"chartulary/value"
)

// model is a ledger in memory, which has values, and knows nothing of a disk but how much it holds.
type model struct {
	policy policy.Policy
	slots  int
	size   int // of a side
	papers []kept
	points []api.Point
	now    int
	used   int // sectors of the journal
	dirty  int
}

// kept is a paper in memory.
type kept struct {
	paper  api.Paper // tidy
	draw   string
	slips  []api.Slip // as they were at first
	leaf   string
	born   int
	slot   int
	gone   bool
	erased map[string]bool
	holds  map[string]bool
}

// newModel is a model of a ledger on a disk of n sectors.
func newModel(n int, p policy.Policy) *model {
	slots, _, size := ledger.Plan(n)
	return &model{policy: p, slots: slots, size: size}
}

// clone is a model that goes on by itself.
func (m *model) clone() *model {
	c := *m
	c.papers = nil
	for _, k := range m.papers {
		k.erased, k.holds = maps.Clone(k.erased), maps.Clone(k.holds)
		c.papers = append(c.papers, k)
	}
	c.points = slices.Clone(m.points)
	return &c
}

// keep is a paper that is new.
func keep(p api.Paper, draw string, born, slot int) kept {
	h := mill.New()
	k := kept{paper: paper.Tidy(p), draw: draw, born: born, slot: slot, erased: map[string]bool{}, holds: map[string]bool{}}
	for _, f := range k.paper.Fields {
		k.slips = append(k.slips, pledge.Slip(h, draw, p.ID, f.Name, value.Bytes(f.Value)))
	}
	k.leaf = sheet.Entry(h, k.entry())
	return k
}

// entry is a paper as a ledger stores it.
func (k kept) entry() api.Entry {
	e := api.Entry{ID: k.paper.ID, Class: k.paper.Class, Born: k.born, Slot: k.slot, Gone: k.gone, Holds: slices.Sorted(maps.Keys(k.holds))}
	for _, s := range k.slips {
		if k.lost(s.Name) {
			s.Erased, s.Cipher = true, ""
		}
		e.Slips = append(e.Slips, s)
	}
	return e
}

// lost tells whether a field is erased.
func (k kept) lost(name string) bool {
	return k.gone || k.erased[name]
}

// entries are all papers as a ledger stores them.
func (m *model) entries() []api.Entry {
	var l []api.Entry
	for _, k := range m.papers {
		l = append(l, k.entry())
	}
	return l
}

// leaves are the leaves of the first n papers.
func (m *model) leaves(n int) []string {
	var l []string
	for _, k := range m.papers[:n] {
		l = append(l, k.leaf)
	}
	return l
}

// free is the first slot that no paper uses.
func (m *model) free() (int, bool) {
	for slot := range m.slots {
		if !slices.ContainsFunc(m.papers, func(k kept) bool { return !k.gone && k.slot == slot }) {
			return slot, true
		}
	}
	return 0, false
}

// seq is the number of the paper with this ID; -1: there is none.
func (m *model) seq(id string) int {
	return slices.IndexFunc(m.papers, func(k kept) bool { return k.paper.ID == id })
}

// write takes the sectors that an event needs.
func (m *model) write(v api.Event, spare int) api.Errno {
	need := journal.Need(len(event.Bytes(v)))
	if m.used+need+spare > m.size {
		return api.ErrFull
	}
	m.used += need
	return api.OK
}

// waits are the dues of the papers that wait, in order.
func (m *model) waits() []policy.Due {
	var l []policy.Due
	for seq, k := range m.papers {
		if period := m.policy[k.paper.Class]; !k.gone && period > 0 {
			l = append(l, policy.Due{Seq: seq, At: k.born + period})
		}
	}
	slices.SortStableFunc(l, func(a, b policy.Due) int { return a.At - b.At })
	return l
}

// op is an operation, with what it is given.
type op struct {
	kind  string
	paper api.Paper
	draw  string
	id    string
	name  string
	names []string
	a, b  int
	query find.Query
}

// told is what an operation answers.
type told struct {
	err    api.Errno
	n      int
	fields []api.Field
	lost   []string
	papers []api.Paper
	found  []int
	point  api.Point
	path   []string
	show   api.Show
}

// do is what a ledger answers.
func do(l *ledger.Ledger, o op) told {
	var r told
	switch o.kind {
	case "append":
		r.n, r.err = l.Append(o.paper, o.draw)
	case "get":
		r.fields, r.lost, r.err = l.Get(o.id)
	case "papers":
		r.papers, r.err = l.Papers()
	case "find":
		r.found, r.err = l.Find(o.query)
	case "erase":
		r.err = l.Erase(o.id, o.name)
	case "drop":
		r.err = l.Drop(o.id)
	case "hold":
		r.err = l.Hold(o.id, o.name)
	case "release":
		r.err = l.Release(o.id, o.name)
	case "tick":
		r.err = l.Tick(o.a)
	case "point":
		r.point, r.err = l.Point()
	case "growth":
		r.path, r.err = l.Growth(o.a, o.b)
	case "show":
		r.show, r.err = l.Show(o.id, o.names, o.a)
	case "step":
		r.n, r.err = l.Step()
	case "sweep":
		r.err = l.Sweep()
	}
	return r
}

// do is what the model answers.
func (m *model) do(o op) told {
	switch o.kind {
	case "append":
		n, err := m.append(o.paper, o.draw)
		return told{n: n, err: err}
	case "papers":
		return told{papers: m.all()}
	case "find":
		found, err := find.Run(o.query, m.all())
		return told{found: found, err: err}
	case "tick":
		if o.a < 0 || o.a > 1<<40-m.now {
			return told{err: api.ErrClock}
		}
		err := m.write(api.Event{Kind: api.EvClock, Now: m.now + o.a}, 0)
		if err == api.OK {
			m.now += o.a
		}
		return told{err: err}
	case "point":
		return m.point()
	case "growth":
		if o.a < 0 || o.a > o.b || o.b > len(m.papers) {
			return told{err: api.ErrSize}
		}
		path, err := merkle.Growth(mill.New(), m.leaves(o.b), o.a)
		return told{path: path, err: err}
	case "step":
		return m.step()
	case "sweep":
		return told{err: m.sweep()}
	}
	seq := m.seq(o.id)
	if seq < 0 {
		return told{err: api.ErrNone}
	}
	return m.about(seq, o)
}

// about is what the model answers to an operation about a paper.
func (m *model) about(seq int, o op) told {
	k := m.papers[seq]
	switch o.kind {
	case "get":
		var r told
		for _, f := range k.paper.Fields {
			if k.lost(f.Name) {
				r.lost = append(r.lost, f.Name)
			} else {
				r.fields = append(r.fields, f)
			}
		}
		return r
	case "erase":
		return told{err: m.erase(seq, o.name)}
	case "drop":
		return told{err: m.drop(seq)}
	case "hold":
		return told{err: m.hold(seq, o.name)}
	case "release":
		return told{err: m.release(seq, o.name)}
	}
	return m.show(seq, o)
}

func (m *model) append(p api.Paper, draw string) (int, api.Errno) {
	if err := paper.Check(p); err != api.OK {
		return 0, err
	}
	slot, ok := m.free()
	switch {
	case len(draw) != 32:
		return 0, api.ErrArg
	case m.seq(p.ID) >= 0:
		return 0, api.ErrTwice
	case !ok || len(m.papers) == 64:
		return 0, api.ErrFull
	}
	k := keep(p, draw, m.now, slot)
	if err := m.write(api.Event{Kind: api.EvPaper, Entry: k.entry()}, 4); err != api.OK {
		return 0, err
	}
	m.papers = append(m.papers, k)
	return len(m.papers) - 1, api.OK
}

// all are all papers, with the fields that are left.
func (m *model) all() []api.Paper {
	var l []api.Paper
	for seq, k := range m.papers {
		fields := m.about(seq, op{kind: "get"}).fields
		l = append(l, api.Paper{ID: k.paper.ID, Class: k.paper.Class, Fields: fields})
	}
	return l
}

func (m *model) erase(seq int, name string) api.Errno {
	k := m.papers[seq]
	i := paper.Find(k.paper, name)
	switch {
	case i < 0:
		return api.ErrName
	case k.lost(name):
		return api.ErrErased
	case len(k.holds) > 0:
		return api.ErrHeld
	}
	err := m.write(api.Event{Kind: api.EvField, Seq: seq, Index: i}, 0)
	if err == api.OK {
		k.erased[name] = true
		m.dirty++
	}
	return err
}

func (m *model) drop(seq int) api.Errno {
	k := &m.papers[seq]
	switch {
	case k.gone:
		return api.ErrErased
	case len(k.holds) > 0:
		return api.ErrHeld
	}
	err := m.write(api.Event{Kind: api.EvGone, Seq: seq}, 0)
	if err == api.OK {
		k.gone = true
		m.dirty++
	}
	return err
}

func (m *model) hold(seq int, name string) api.Errno {
	k := m.papers[seq]
	switch {
	case !paper.IsName(name):
		return api.ErrName
	case k.gone:
		return api.ErrErased
	case k.holds[name]:
		return api.ErrTwice
	case len(k.holds) == 4:
		return api.ErrFull
	}
	err := m.write(api.Event{Kind: api.EvHold, Seq: seq, Name: name}, 0)
	if err == api.OK {
		k.holds[name] = true
	}
	return err
}

func (m *model) release(seq int, name string) api.Errno {
	k := m.papers[seq]
	if !k.holds[name] {
		return api.ErrName
	}
	err := m.write(api.Event{Kind: api.EvRelease, Seq: seq, Name: name}, 0)
	if err == api.OK {
		delete(k.holds, name)
	}
	return err
}

func (m *model) point() told {
	n := len(m.papers)
	p := api.Point{Size: n, Root: merkle.Root(mill.New(), m.leaves(n))}
	if err := m.write(api.Event{Kind: api.EvPoint, Point: p}, 0); err != api.OK {
		return told{err: err}
	}
	m.points = append(m.points, p)
	return told{point: p}
}

func (m *model) show(seq int, o op) told {
	if seq >= o.a || o.a > len(m.papers) {
		return told{err: api.ErrSize}
	}
	k, h := m.papers[seq], mill.New()
	e := k.entry()
	s := api.Show{ID: e.ID, Class: e.Class, Born: e.Born, Count: len(e.Slips), Seq: seq, Size: o.a}
	var pick []int
	for i, f := range k.paper.Fields {
		if !slices.Contains(o.names, f.Name) {
			continue
		}
		pick = append(pick, i)
		if k.lost(f.Name) {
			s.Items = append(s.Items, api.Item{Index: i, Name: f.Name, Erased: true, Pledge: e.Slips[i].Pledge})
		} else {
			s.Items = append(s.Items, api.Item{Index: i, Name: f.Name, Salt: pledge.Salt(h, k.draw, f.Name), Value: value.Bytes(f.Value)})
		}
	}
	if len(pick) == 0 {
		return told{err: api.ErrName}
	}
	s.Nodes, _ = sheet.Nodes(h, e.Slips, pick)
	s.Path, _ = merkle.Path(h, m.leaves(o.a), seq)
	return told{show: s}
}

func (m *model) step() told {
	for _, d := range m.waits() {
		if d.At > m.now || len(m.papers[d.Seq].holds) > 0 {
			continue
		}
		if err := m.drop(d.Seq); err != api.OK {
			return told{err: err}
		}
		return told{n: 1}
	}
	if m.dirty == 0 {
		return told{}
	}
	if err := m.sweep(); err != api.OK {
		return told{err: err}
	}
	return told{n: 2}
}

func (m *model) sweep() api.Errno {
	need := journal.Need(len(event.Bytes(api.Event{Kind: api.EvClock, Now: m.now})))
	for _, e := range m.entries() {
		need += journal.Need(len(event.Bytes(api.Event{Kind: api.EvPaper, Entry: e})))
	}
	for _, p := range m.points {
		need += journal.Need(len(event.Bytes(api.Event{Kind: api.EvPoint, Point: p})))
	}
	if need > m.size {
		return api.ErrFull
	}
	m.used, m.dirty = need, 0
	return api.OK
}

// sight is all that a ledger lets see of itself, besides the answers of its operations.
type sight struct {
	entries []api.Entry
	points  []api.Point
	now     int
	used    []int
	dirty   int
	left    int
	waits   []policy.Due
	ats     []policy.Due // by Deadline; At is -1 for a paper that does not wait
}

// seen is what a ledger lets see.
func seen(l *ledger.Ledger) sight {
	s := sight{l.State().Entries(), l.State().Points(), l.State().Now(), l.State().Used(), l.Dirty(), l.Left(), l.Waits(), nil}
	for seq, e := range s.entries {
		at, ok := l.Deadline(e.ID)
		if !ok && at == 0 {
			at = -1
		}
		s.ats = append(s.ats, policy.Due{Seq: seq, At: at})
	}
	return s
}

// seen is what the model lets see.
func (m *model) seen() sight {
	s := sight{entries: m.entries(), points: m.points, now: m.now, dirty: m.dirty, left: m.size - m.used, waits: m.waits()}
	for seq, k := range m.papers {
		at := -1
		if !k.gone {
			s.used = append(s.used, k.slot)
			if period := m.policy[k.paper.Class]; period > 0 {
				at = k.born + period
			}
		}
		s.ats = append(s.ats, policy.Due{Seq: seq, At: at})
	}
	slices.Sort(s.used)
	return s
}

// changing are the kinds of operations that may change something; some come more often than others.
var changing = strings.Fields("append append append erase erase drop hold hold release tick point step step step sweep")

// asking are those that change nothing.
var asking = strings.Fields("get papers find growth show")
