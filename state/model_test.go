package state_test

import (
	"maps"
	"math/rand/v2"
	"slices"
	"testing"

	"chartulary/api"
	"chartulary/state"
)

// model keeps a paper as it came, with what happened to it since.
type model struct {
	papers []*paper
	points []api.Point
	now    int
	events int
}

type paper struct {
	first  api.Entry
	gone   bool
	erased map[int]bool
	holds  map[string]bool
}

// begin is a paper as an entry has it.
func begin(e api.Entry) *paper {
	p := &paper{e, e.Gone, map[int]bool{}, map[string]bool{}}
	for i, l := range e.Slips {
		p.erased[i] = l.Erased
	}
	for _, name := range e.Holds {
		p.holds[name] = true
	}
	return p
}

// entry is a paper as it is stored now.
func (p *paper) entry() api.Entry {
	e := p.first
	e.Gone, e.Slips = p.gone, nil
	for i, l := range p.first.Slips {
		if p.gone || p.erased[i] {
			l = api.Slip{Name: l.Name, Pledge: l.Pledge, Erased: true}
		}
		e.Slips = append(e.Slips, l)
	}
	e.Holds = slices.Sorted(maps.Keys(p.holds))
	return e
}

// reason is a reason to reject an event, and whether it is given.
type reason struct {
	err   api.Errno
	given bool
}

// first is the error of the first reason that is given.
func first(l ...reason) api.Errno {
	for _, r := range l {
		if r.given {
			return r.err
		}
	}
	return api.OK
}

// check is the error for an event that is valid.
func (m *model) check(v api.Event) api.Errno {
	switch v.Kind {
	case api.EvPaper:
		twice, used := false, false
		for _, p := range m.papers {
			twice = twice || p.first.ID == v.Entry.ID
			used = used || !p.gone && p.first.Slot == v.Entry.Slot
		}
		return first(reason{api.ErrTwice, twice}, reason{api.ErrFull, len(m.papers) == 64}, reason{api.ErrClock, v.Entry.Born > m.now}, reason{api.ErrThere, used && !v.Entry.Gone})
	case api.EvPoint:
		least := 0
		for _, p := range m.points {
			least = max(least, p.Size)
		}
		return first(reason{api.ErrSize, v.Point.Size > len(m.papers) || v.Point.Size < least})
	case api.EvClock:
		return first(reason{api.ErrClock, v.Now < m.now})
	}
	if v.Seq >= len(m.papers) {
		return api.ErrNone
	}
	p := m.papers[v.Seq]
	switch v.Kind {
	case api.EvField:
		return first(reason{api.ErrName, v.Index >= len(p.first.Slips)}, reason{api.ErrErased, p.gone || p.erased[v.Index]}, reason{api.ErrHeld, len(p.holds) > 0})
	case api.EvGone:
		return first(reason{api.ErrErased, p.gone}, reason{api.ErrHeld, len(p.holds) > 0})
	case api.EvHold:
		return first(reason{api.ErrErased, p.gone}, reason{api.ErrTwice, p.holds[v.Name]}, reason{api.ErrFull, len(p.holds) == 4})
	}
	return first(reason{api.ErrName, !p.holds[v.Name]})
}

// apply applies an event that is not rejected.
func (m *model) apply(v api.Event) {
	m.events++
	switch v.Kind {
	case api.EvPaper:
		m.papers = append(m.papers, begin(v.Entry))
	case api.EvPoint:
		m.points = append(m.points, v.Point)
	case api.EvClock:
		m.now = v.Now
	case api.EvField:
		m.papers[v.Seq].erased[v.Index] = true
	case api.EvGone:
		m.papers[v.Seq].gone = true
	case api.EvHold:
		m.papers[v.Seq].holds[v.Name] = true
	case api.EvRelease:
		delete(m.papers[v.Seq].holds, v.Name)
	}
}

// told is all that the state has to tell.
func (m *model) told() told {
	want := told{points: m.points, now: m.now, events: m.events}
	for _, p := range m.papers {
		want.entries = append(want.entries, p.entry())
		if !p.gone {
			want.used = append(want.used, p.first.Slot)
		}
	}
	slices.Sort(want.used)
	return want
}

// randomEntry is a valid one; about one in five is Gone.
func randomEntry(r *rand.Rand, m *model) api.Entry {
	// There are enough IDs for 64 papers, and few enough for the same one to come again.
	e := api.Entry{ID: letter(r.IntN(10)) + letter(r.IntN(20)), Class: r.IntN(8), Born: max(0, m.now+1-r.IntN(20)), Slot: r.IntN(64), Gone: r.IntN(5) == 0}
	for i := range 1 + r.IntN(12) {
		l := api.Slip{Name: letter(i), Pledge: hash(letter(r.IntN(26)))}
		l.Erased = e.Gone || r.IntN(4) == 0
		if !l.Erased {
			l.Cipher = repeat(letter(r.IntN(26)), 16+r.IntN(209))
		}
		e.Slips = append(e.Slips, l)
	}
	for n := range 5 {
		if r.IntN(12) == 0 && len(e.Holds) < 4 {
			e.Holds = append(e.Holds, letter(n))
		}
	}
	return e
}

// randomEvent is a valid one.
func randomEvent(r *rand.Rand, m *model) api.Event {
	// Papers, the first kind, come more often than others, so that there are 64 of them in the end.
	v := api.Event{Kind: 1 + max(0, r.IntN(10)-3), Seq: r.IntN(min(64, len(m.papers)+2)), Index: r.IntN(12), Name: letter(r.IntN(6))}
	v.Point = api.Point{Size: r.IntN(min(65, len(m.papers)+2)), Root: hash(letter(r.IntN(26)))}
	v.Now = max(0, m.now+r.IntN(8)-2)
	if v.Kind == api.EvPoint && r.IntN(3) > 0 {
		v.Point.Size = len(m.papers)
	}
	if v.Kind == api.EvPaper {
		v.Entry = randomEntry(r, m)
	}
	return v
}

// spoiled is an event that is not valid any more.
func spoiled(r *rand.Rand, v api.Event) api.Event {
	if r.IntN(4) == 0 {
		v.Kind = []int{-1, 0, 8}[r.IntN(3)]
	}
	v.Seq, v.Now, v.Entry.Class, v.Point.Size = 64, -1, 8, 65
	return v
}

// Promises 16.1 to 16.5: whatever events come, valid or not, the state is that of a simple model, and so is that of its snapshot.
func TestModel(t *testing.T) {
	met := map[[2]int]bool{}
	for seed := range uint64(4) {
		r := rand.New(rand.NewPCG(16, seed))
		s, m := state.New(), &model{}
		for range 400 {
			v := randomEvent(r, m)
			err := m.check(v)
			met[[2]int{v.Kind, int(err)}] = true
			if r.IntN(10) == 0 {
				rejects(t, s, api.ErrForm, spoiled(r, v))
			} else if err != api.OK {
				rejects(t, s, err, v)
			} else {
				apply(t, s, v)
				m.apply(v)
			}
			checkTold(t, "after an event", s, m.told())
			if t.Failed() {
				t.Fatalf("seed %d", seed)
			}
		}
	}
	// An event of each of the seven kinds is applied, and rejected for each of the nineteen reasons of the chapter.
	if len(met) != 26 {
		t.Errorf("met were %d pairs of a kind and an error: %v", len(met), met)
	}
}

// Promise 16.5: a state goes on from its snapshot as it would have gone on by itself.
func TestGoOn(t *testing.T) {
	for seed := range uint64(8) {
		r := rand.New(rand.NewPCG(17, seed))
		s, m := state.New(), &model{}
		var again *state.State
		for n := range 300 {
			if n%50 == 0 {
				again = of(t, s.Snapshot()...)
			}
			v := randomEvent(r, m)
			if a, b := s.Apply(v), again.Apply(v); a != b || a != m.check(v) {
				t.Fatalf("Apply(%+v) = %d, %d, want %d", v, a, b, m.check(v))
			} else if a == api.OK {
				m.apply(v)
			}
			if !state.Same(s, again) {
				t.Fatalf("seed %d: after %+v they are not the same", seed, v)
			}
		}
	}
}
