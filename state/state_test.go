package state_test

import (
	"math"
	"slices"
	"strings"
	"testing"

	"chartulary/api"
	"chartulary/state"
)

// latest is the greatest time.
const latest = 1099511627776

func repeat(c string, n int) string { return strings.Repeat(c, n) }

// hash is a string of 32 bytes.
func hash(c string) string { return repeat(c, 32) }

func slip(name string) api.Slip {
	return api.Slip{Name: name, Pledge: hash(name), Cipher: repeat("c", 16) + name}
}

func erased(name string) api.Slip {
	return api.Slip{Name: name, Pledge: hash(name), Erased: true}
}

// entry has the slips a, b and c, of which b is erased.
func entry(id string, slot int) api.Entry {
	return api.Entry{ID: id, Class: slot % 8, Slot: slot, Slips: []api.Slip{slip("a"), erased("b"), slip("c")}}
}

// gone is an entry that is Gone.
func gone(id string, slot int) api.Entry {
	return api.Entry{ID: id, Class: slot % 8, Slot: slot, Slips: []api.Slip{erased("a"), erased("b"), erased("c")}, Gone: true}
}

// born is e, stored at a time, and held is e with holds.
func born(e api.Entry, now int) api.Entry {
	e.Born = now
	return e
}

func held(e api.Entry, names ...string) api.Entry {
	e.Holds = names
	return e
}

// letter is an ID of one letter.
func letter(n int) string {
	return string(rune('A' + n))
}

func ofEntry(e api.Entry) api.Event    { return api.Event{Kind: api.EvPaper, Entry: e} }
func ofField(seq, index int) api.Event { return api.Event{Kind: api.EvField, Seq: seq, Index: index} }
func ofGone(seq int) api.Event         { return api.Event{Kind: api.EvGone, Seq: seq} }
func ofClock(now int) api.Event        { return api.Event{Kind: api.EvClock, Now: now} }
func hold(seq int, name string) api.Event {
	return api.Event{Kind: api.EvHold, Seq: seq, Name: name}
}
func release(seq int, name string) api.Event {
	return api.Event{Kind: api.EvRelease, Seq: seq, Name: name}
}
func point(size int, root string) api.Event {
	return api.Event{Kind: api.EvPoint, Point: api.Point{Size: size, Root: hash(root)}}
}

// equal tells whether two entries are equal; nil and the empty list are the same.
func equal(a, b api.Entry) bool {
	return a.ID == b.ID && a.Class == b.Class && a.Born == b.Born && a.Slot == b.Slot && a.Gone == b.Gone &&
		slices.Equal(a.Slips, b.Slips) && slices.Equal(a.Holds, b.Holds)
}

// equalEvents tells whether two events have all contents equal.
func equalEvents(a, b api.Event) bool {
	return a.Kind == b.Kind && equal(a.Entry, b.Entry) && a.Seq == b.Seq && a.Index == b.Index &&
		a.Name == b.Name && a.Point == b.Point && a.Now == b.Now
}

// apply applies events that are not rejected.
func apply(t *testing.T, s *state.State, events ...api.Event) {
	t.Helper()
	for _, v := range events {
		before := s.Events()
		if err := s.Check(v); err != api.OK {
			t.Errorf("Check(%+v) = %d", v, err)
		}
		if err := s.Apply(v); err != api.OK {
			t.Errorf("Apply(%+v) = %d", v, err)
		}
		if s.Events() != before+1 {
			t.Errorf("Events after %+v = %d, want %d", v, s.Events(), before+1)
		}
	}
}

// of is a new state to which events were applied.
func of(t *testing.T, events ...api.Event) *state.State {
	t.Helper()
	s := state.New()
	apply(t, s, events...)
	return s
}

// told is all that a state tells.
type told struct {
	entries []api.Entry
	points  []api.Point
	used    []int
	now     int
	events  int
}

func tell(s *state.State) told {
	return told{s.Entries(), s.Points(), s.Used(), s.Now(), s.Events()}
}

// checkTold checks all that a state tells, but for what Check and Apply answer.
func checkTold(t *testing.T, what string, s *state.State, want told) {
	t.Helper()
	got := tell(s)
	if !slices.EqualFunc(got.entries, want.entries, equal) {
		t.Errorf("%s: Entries = %+v, want %+v", what, got.entries, want.entries)
	}
	if !slices.Equal(got.points, want.points) || !slices.Equal(got.used, want.used) {
		t.Errorf("%s: Points = %v, Used = %v, want %v, %v", what, got.points, got.used, want.points, want.used)
	}
	if got.now != want.now || got.events != want.events || s.Len() != len(want.entries) {
		t.Errorf("%s: Now, Events, Len = %d, %d, %d, want %d, %d, %d", what, got.now, got.events, s.Len(), want.now, want.events, len(want.entries))
	}
	for seq, e := range want.entries {
		if one, err := s.Entry(seq); !equal(one, e) || err != api.OK {
			t.Errorf("%s: Entry(%d) = %+v, %d, want %+v", what, seq, one, err, e)
		}
		if n, err := s.Seq(e.ID); n != seq || err != api.OK {
			t.Errorf("%s: Seq(%q) = %d, %d, want %d", what, e.ID, n, err, seq)
		}
	}
	checkSnapshot(t, what, s, want)
}

// checkSnapshot checks the events of a snapshot, and that they result in an equal state.
func checkSnapshot(t *testing.T, what string, s *state.State, want told) {
	t.Helper()
	events := []api.Event{ofClock(want.now)}
	for _, e := range want.entries {
		events = append(events, ofEntry(e))
	}
	for _, p := range want.points {
		events = append(events, api.Event{Kind: api.EvPoint, Point: p})
	}
	got := s.Snapshot()
	if !slices.EqualFunc(got, events, equalEvents) {
		t.Errorf("%s: Snapshot = %+v, want %+v", what, got, events)
	}
	again := of(t, got...)
	if !state.Same(s, again) || !state.Same(again, s) {
		t.Errorf("%s: the snapshot's state is another one", what)
	}
}

// rejects checks that events are rejected with an error, and change nothing.
func rejects(t *testing.T, s *state.State, want api.Errno, events ...api.Event) {
	t.Helper()
	before := tell(s)
	for _, v := range events {
		if err := s.Check(v); err != want {
			t.Errorf("Check(%+v) = %d, want %d", v, err, want)
		}
		if err := s.Apply(v); err != want {
			t.Errorf("Apply(%+v) = %d, want %d", v, err, want)
		}
	}
	checkTold(t, "after what was rejected", s, before)
}

// Promises 16.1 and 16.2: a state begins without papers and checkpoints, at the time 0.
func TestNew(t *testing.T) {
	s := state.New()
	checkTold(t, "a new state", s, told{})
	if state.New() == s || !state.Same(state.New(), s) {
		t.Error("New does not return a new state each time")
	}
}

// Promise 16.1: example 1 of the chapter.
func TestExample1(t *testing.T) {
	s := of(t, ofEntry(entry("a", 0)), hold(0, "h"))
	rejects(t, s, api.ErrHeld, ofField(0, 0), ofGone(0))
	apply(t, s, release(0, "h"), ofField(0, 0))
	rejects(t, s, api.ErrErased, ofField(0, 0))
}

// Promise 16.1: example 2 of the chapter.
func TestExample2(t *testing.T) {
	s := of(t, ofEntry(entry("a", 0)))
	rejects(t, s, api.ErrTwice, ofEntry(entry("a", 1)))
	rejects(t, s, api.ErrThere, ofEntry(entry("b", 0)))
	apply(t, s, ofEntry(entry("b", 1)), ofClock(5))
	rejects(t, s, api.ErrClock, ofClock(4))
	rejects(t, s, api.ErrSize, point(3, "r"))
	rejects(t, s, api.ErrForm, api.Event{Kind: 9})
}

// Promise 16.1: an event that is not valid is of no form, whatever else speaks against it.
func TestForm(t *testing.T) {
	s := of(t, ofClock(5), ofEntry(entry("a", 0)), hold(0, "h"), point(1, "r"))
	long, few, loose := entry("b", 1), entry("b", 1), gone("b", 1)
	long.ID, few.Slips, loose.Slips[0] = repeat("b", 25), nil, slip("a")
	loose.Gone = true
	rejects(t, s, api.ErrForm,
		api.Event{}, api.Event{Kind: -1}, api.Event{Kind: 8}, api.Event{Kind: math.MinInt}, api.Event{Kind: math.MaxInt},
		ofEntry(api.Entry{}), ofEntry(long), ofEntry(few), ofEntry(loose), ofEntry(entry("b", -1)), ofEntry(entry("a", 64)),
		ofEntry(born(entry("a", 0), -1)), ofEntry(born(entry("b", 1), latest+1)), ofEntry(held(entry("b", 1), "i", "h")), ofEntry(held(entry("b", 1), "1", "2", "3", "4", "5")),
		ofField(-1, 0), ofField(64, 0), ofField(0, -1), ofField(0, 12), ofField(math.MinInt, 0), ofField(0, math.MaxInt),
		ofGone(-1), ofGone(64), ofGone(math.MaxInt),
		hold(-1, "h"), hold(64, "i"), hold(0, ""), hold(0, "a b"), hold(0, repeat("h", 17)),
		release(-1, "h"), release(64, "h"), release(0, ""), release(0, "h "), release(1, repeat("h", 17)),
		point(-1, "r"), point(65, "r"), point(1, ""), point(2, "rr"), api.Event{Kind: api.EvPoint, Point: api.Point{Size: 1}},
		ofClock(-1), ofClock(latest+1), ofClock(math.MinInt), ofClock(math.MaxInt),
	)
}

// Promise 16.1: what a kind does not use is not asked, and not kept.
func TestUnused(t *testing.T) {
	e := held(entry("a", 0), "h")
	dirty := api.Event{Entry: api.Entry{ID: "?", Slot: 99, Born: -1}, Seq: 99, Index: 99, Name: "?", Point: api.Point{Size: 99}, Now: -1}
	s := state.New()
	for _, v := range []api.Event{ofClock(3), ofEntry(e), hold(0, "i"), release(0, "h"), release(0, "i"), ofField(0, 2), ofGone(0), point(1, "r")} {
		d := dirty
		d.Kind = v.Kind
		switch v.Kind {
		case api.EvClock:
			d.Now = v.Now
		case api.EvPaper:
			d.Entry = v.Entry
		case api.EvPoint:
			d.Point = v.Point
		case api.EvField:
			d.Seq, d.Index = v.Seq, v.Index
		case api.EvGone:
			d.Seq = v.Seq
		default:
			d.Seq, d.Name = v.Seq, v.Name
		}
		apply(t, s, d)
	}
	checkTold(t, "after events with more", s, told{[]api.Entry{gone("a", 0)}, []api.Point{{Size: 1, Root: hash("r")}}, nil, 3, 8})
}

// Promises 16.1 and 16.2: papers are kept as they are, in the order in which they came.
func TestPapers(t *testing.T) {
	want := told{now: 7, used: []int{0, 5, 9, 63}, events: 1}
	s := of(t, ofClock(7))
	for _, e := range []api.Entry{
		born(entry("z", 9), 7), entry("a", 63), gone("B", 9), held(entry(repeat("i", 24), 0), "1", "2", "3", "4"),
		held(gone("0", 1), "h"), born(entry("b", 5), 3), gone("g", 5),
	} {
		apply(t, s, ofEntry(e))
		want.entries = append(want.entries, e)
		want.events++
	}
	checkTold(t, "with papers of all sorts", s, want)
	for _, seq := range []int{math.MinInt, -1, 7, 8, 64, math.MaxInt} {
		if e, err := s.Entry(seq); !equal(e, api.Entry{}) || err != api.ErrNone {
			t.Errorf("Entry(%d) = %+v, %d", seq, e, err)
		}
	}
	for _, id := range []string{"", "A", "zz", "y", "z ", "\xff", repeat("i", 23), repeat("i", 25)} {
		if n, err := s.Seq(id); n != 0 || err != api.ErrNone {
			t.Errorf("Seq(%q) = %d, %d", id, n, err)
		}
	}
}

// Promise 16.1: each reason to reject a paper, and of several the first one.
func TestPaperRejected(t *testing.T) {
	s := of(t, ofClock(5), ofEntry(entry("a", 0)), ofEntry(entry("b", 1)), ofGone(1), ofEntry(entry("c", 2)))
	rejects(t, s, api.ErrTwice,
		ofEntry(entry("a", 3)), ofEntry(entry("b", 3)), ofEntry(gone("a", 3)), ofEntry(gone("b", 1)), ofEntry(entry("c", 1)),
		ofEntry(born(entry("a", 3), 6)), ofEntry(entry("a", 0)), ofEntry(born(entry("b", 0), 6)))
	rejects(t, s, api.ErrClock,
		ofEntry(born(entry("d", 3), 6)), ofEntry(born(entry("d", 3), latest)), ofEntry(born(entry("d", 0), 6)), ofEntry(born(gone("d", 0), 6)))
	rejects(t, s, api.ErrThere, ofEntry(entry("d", 0)), ofEntry(born(entry("d", 2), 5)), ofEntry(held(entry("d", 2), "h")))
	apply(t, s, ofEntry(born(entry("d", 1), 5)), ofEntry(gone("e", 0)), ofEntry(gone("f", 0)), ofEntry(gone("g", 1)))
	rejects(t, s, api.ErrThere, ofEntry(entry("h", 1)))
	apply(t, s, ofGone(3), ofEntry(entry("h", 1)))
	rejects(t, s, api.ErrTwice, ofEntry(entry("d", 5)), ofEntry(gone("e", 0)))
}

// Promise 16.1: there are at most 64 papers, be they Gone or not.
func TestFull(t *testing.T) {
	s := state.New()
	for n := range 64 {
		apply(t, s, ofEntry(entry(letter(n/26)+letter(n%26), n)))
	}
	apply(t, s, ofGone(7))
	rejects(t, s, api.ErrFull,
		ofEntry(entry("a", 7)), ofEntry(entry("a", 0)), ofEntry(gone("a", 0)), ofEntry(born(entry("a", 7), 1)), ofEntry(born(entry("a", 0), 1)))
	rejects(t, s, api.ErrTwice, ofEntry(entry("AA", 7)), ofEntry(gone("AH", 7)), ofEntry(born(entry("CL", 0), 1)))
	apply(t, s, point(64, "r"), hold(63, "h"), release(63, "h"), ofField(63, 2), ofGone(63), ofClock(1))
	rejects(t, s, api.ErrFull, ofEntry(entry("a", 7)))
	if used := s.Used(); len(used) != 62 || used[6] != 6 || used[7] != 8 || used[61] != 62 {
		t.Errorf("Used = %v", used)
	}
}

// Promise 16.1: what is erased leaves its name and its pledge.
func TestErase(t *testing.T) {
	s := of(t, ofEntry(entry("a", 3)), ofEntry(entry("b", 1)), ofField(0, 2))
	one := entry("a", 3)
	one.Slips[2] = erased("c")
	checkTold(t, "after a field", s, told{[]api.Entry{one, entry("b", 1)}, nil, []int{1, 3}, 0, 3})
	apply(t, s, ofField(0, 0))
	one.Slips[0] = erased("a")
	checkTold(t, "after all fields", s, told{[]api.Entry{one, entry("b", 1)}, nil, []int{1, 3}, 0, 4})
	apply(t, s, ofGone(0))
	checkTold(t, "after a paper", s, told{[]api.Entry{gone("a", 3), entry("b", 1)}, nil, []int{1}, 0, 5})
	apply(t, s, ofGone(1))
	checkTold(t, "after both", s, told{[]api.Entry{gone("a", 3), gone("b", 1)}, nil, nil, 0, 6})
}

// Promise 16.1: each reason to reject an erasure, and of several the first one.
func TestEraseRejected(t *testing.T) {
	s := of(t, ofEntry(entry("a", 0)), ofEntry(held(entry("b", 1), "h")), ofEntry(gone("c", 2)), ofEntry(held(gone("d", 3), "h")))
	rejects(t, s, api.ErrNone, ofField(4, 0), ofField(4, 11), ofField(63, 0), ofGone(4), ofGone(63))
	for seq := range 4 {
		rejects(t, s, api.ErrName, ofField(seq, 3), ofField(seq, 11))
		rejects(t, s, api.ErrErased, ofField(seq, 1))
	}
	rejects(t, s, api.ErrHeld, ofField(1, 0), ofField(1, 2), ofGone(1))
	rejects(t, s, api.ErrErased, ofField(2, 0), ofField(2, 2), ofField(3, 0), ofGone(2), ofGone(3))
	apply(t, s, release(1, "h"), ofGone(1), ofGone(0))
	rejects(t, s, api.ErrErased, ofGone(0), ofGone(1), ofField(0, 0), ofField(1, 1))
}

// Promise 16.1: a paper has as many fields as it has slips.
func TestIndex(t *testing.T) {
	for n := 1; n <= 12; n++ {
		e := entry("a", 0)
		e.Slips = nil
		for i := range n {
			e.Slips = append(e.Slips, slip(letter(i)))
		}
		for i := range 12 {
			s := of(t, ofEntry(e))
			if i >= n {
				rejects(t, s, api.ErrName, ofField(0, i))
				continue
			}
			apply(t, s, ofField(0, i))
			rest := e
			rest.Slips = slices.Clone(e.Slips)
			rest.Slips[i] = erased(letter(i))
			checkTold(t, "after one of the fields", s, told{[]api.Entry{rest}, nil, []int{0}, 0, 2})
		}
	}
}

// Promise 16.1: holds are sorted, in whatever order they come, and at most four.
func TestHolds(t *testing.T) {
	names := []string{"-", "Z", "a", "aa"}
	for _, order := range [][]int{{0, 1, 2, 3}, {3, 2, 1, 0}, {2, 0, 3, 1}, {1, 3, 0, 2}} {
		s := of(t, ofEntry(entry("a", 0)))
		var holds []string
		for n, i := range order {
			apply(t, s, hold(0, names[i]))
			holds = append(holds, names[i])
			slices.Sort(holds)
			checkTold(t, "after a hold", s, told{[]api.Entry{held(entry("a", 0), holds...)}, nil, []int{0}, 0, n + 2})
			rejects(t, s, api.ErrTwice, hold(0, names[i]))
			rejects(t, s, api.ErrHeld, ofField(0, 0), ofGone(0))
		}
		rejects(t, s, api.ErrFull, hold(0, "b"), hold(0, repeat("z", 16)))
		rejects(t, s, api.ErrTwice, hold(0, "a"), hold(0, "-"))
		for n, i := range order {
			apply(t, s, release(0, names[i]))
			holds = slices.DeleteFunc(holds, func(name string) bool { return name == names[i] })
			checkTold(t, "after a release", s, told{[]api.Entry{held(entry("a", 0), holds...)}, nil, []int{0}, 0, n + 6})
			rejects(t, s, api.ErrName, release(0, names[i]))
		}
		apply(t, s, hold(0, "b"), release(0, "b"), ofField(0, 0), ofGone(0))
	}
}

// Promise 16.1: each reason to reject a hold or a release, and of several the first one.
func TestHoldRejected(t *testing.T) {
	s := of(t, ofEntry(entry("a", 0)), ofEntry(held(entry("b", 1), "h", "i", "j", "k")), ofEntry(gone("c", 2)), ofEntry(held(gone("d", 3), "h", "i", "j", "k")))
	rejects(t, s, api.ErrNone, hold(4, "h"), hold(63, "z"), release(4, "h"), release(63, "z"))
	rejects(t, s, api.ErrErased, hold(2, "h"), hold(3, "h"), hold(3, "z"))
	rejects(t, s, api.ErrTwice, hold(1, "h"), hold(1, "k"))
	rejects(t, s, api.ErrFull, hold(1, "z"), hold(1, "a"))
	rejects(t, s, api.ErrName, release(0, "h"), release(1, "H"), release(1, "hh"), release(2, "h"), release(3, "z"))
	apply(t, s, release(3, "i"), release(3, "h"), release(3, "k"), release(1, "j"))
	checkTold(t, "after releases", s, told{
		[]api.Entry{entry("a", 0), held(entry("b", 1), "h", "i", "k"), gone("c", 2), held(gone("d", 3), "j")}, nil, []int{0, 1}, 0, 8,
	})
	rejects(t, s, api.ErrHeld, ofField(1, 0), ofGone(1))
}

// Promise 16.1: a checkpoint is as long as the last one or longer, and no longer than the papers are many.
func TestPoints(t *testing.T) {
	s := state.New()
	rejects(t, s, api.ErrSize, point(1, "r"), point(64, "r"))
	var points []api.Point
	for n := range 5 {
		for _, root := range []string{"r", "q", "q"} {
			apply(t, s, point(n, root))
			points = append(points, api.Point{Size: n, Root: hash(root)})
		}
		for size := range 65 {
			if size != n {
				rejects(t, s, api.ErrSize, point(size, "r"))
			}
		}
		apply(t, s, ofEntry(entry(letter(n), n)))
	}
	apply(t, s, ofGone(0), ofGone(4), point(5, "s"))
	points = append(points, api.Point{Size: 5, Root: hash("s")})
	if !slices.Equal(s.Points(), points) {
		t.Errorf("Points = %v, want %v", s.Points(), points)
	}
}

// Promise 16.1: checkpoints can be left out, and have no limit.
func TestManyPoints(t *testing.T) {
	s := of(t, ofEntry(entry("a", 0)), ofEntry(entry("b", 1)), ofEntry(entry("c", 2)), point(1, "r"), point(3, "r"))
	rejects(t, s, api.ErrSize, point(2, "r"), point(0, "r"), point(4, "r"))
	for range 1000 {
		apply(t, s, point(3, "r"))
	}
	if l := s.Points(); len(l) != 1002 || l[0].Size != 1 || l[1].Size != 3 {
		t.Errorf("%d checkpoints", len(l))
	}
}

// Promise 16.1: the time does not go back.
func TestClock(t *testing.T) {
	s := state.New()
	for n, now := range []int{0, 0, 1, 1, 5, 300, 1 << 32, latest - 1, latest, latest} {
		apply(t, s, ofClock(now))
		checkTold(t, "after a time", s, told{now: now, events: n + 1})
		if now > 0 {
			rejects(t, s, api.ErrClock, ofClock(now-1), ofClock(0), ofClock(now/2))
		}
	}
	apply(t, s, ofEntry(born(entry("a", 0), latest)))
}

// Promise 16.5: the pledges of a paper never change, and what was erased is not in a snapshot.
func TestErasedIsNotInSnapshot(t *testing.T) {
	secret := func(name, text string) api.Slip {
		return api.Slip{Name: name, Pledge: hash(name), Cipher: repeat(text, 16)}
	}
	one, two := entry("a", 0), entry("b", 1)
	one.Slips = []api.Slip{secret("a", "1"), secret("b", "2")}
	two.Slips = []api.Slip{secret("a", "3"), secret("b", "4")}
	s := of(t, ofEntry(one), ofEntry(two), hold(0, "hush"), point(1, "r"), release(0, "hush"), ofField(0, 0), ofGone(1))
	var all string
	for _, v := range s.Snapshot() {
		for _, l := range v.Entry.Slips {
			all += l.Cipher
			if l.Pledge != hash(l.Name) {
				t.Errorf("the pledge is %q", l.Pledge)
			}
		}
		all += strings.Join(v.Entry.Holds, "") + v.Name
	}
	if all != repeat("2", 16) {
		t.Errorf("the snapshot has %q", all)
	}
}

// Promise 16.3: two states are the same with the same papers, checkpoints and time, however they came to them.
func TestSame(t *testing.T) {
	a := of(t, ofClock(2), ofClock(5), ofEntry(entry("a", 0)), hold(0, "i"), hold(0, "h"), hold(0, "x"), release(0, "x"), ofEntry(entry("b", 1)), ofField(1, 0), ofGone(1), point(1, "r"))
	b := of(t, ofEntry(held(entry("a", 0), "h", "i")), ofEntry(gone("b", 1)), point(1, "r"), ofClock(5))
	if !state.Same(a, b) || !state.Same(b, a) || !state.Same(a, a) {
		t.Error("equal states are not the same")
	}
	if a.Events() != 11 || b.Events() != 4 {
		t.Errorf("Events = %d, %d", a.Events(), b.Events())
	}
}

// Promise 16.3: any difference of the papers, checkpoints or times is one of the states.
func TestNotSame(t *testing.T) {
	with := func(change func(e *api.Entry)) []api.Event {
		e := held(entry("a", 0), "h")
		change(&e)
		return []api.Event{ofClock(5), ofEntry(e), point(1, "r")}
	}
	a := with(func(e *api.Entry) {})
	scripts := [][]api.Event{
		nil,
		a,
		a[:1], a[:2], a[1:], a[1:2],
		{ofClock(6), a[1], a[2]},
		{a[0], a[1], point(1, "q")},
		{a[0], a[1], point(0, "r")},
		{a[0], a[1], point(0, "r"), a[2]},
		{a[0], a[1], a[2], a[2]},
		{a[0], a[1], point(1, "q"), a[2]},
		{a[0], a[1], a[2], point(1, "q")},
		{a[0], a[1], a[2], ofEntry(entry("b", 1))},
		{a[0], a[1], a[2], ofEntry(gone("b", 1))},
		{a[0], ofEntry(entry("b", 1)), a[1], a[2]},
		with(func(e *api.Entry) { e.ID = "b" }),
		with(func(e *api.Entry) { e.Class = 1 }),
		with(func(e *api.Entry) { e.Born = 1 }),
		with(func(e *api.Entry) { e.Slot = 1 }),
		with(func(e *api.Entry) { e.Holds = nil }),
		with(func(e *api.Entry) { e.Holds = []string{"i"} }),
		with(func(e *api.Entry) { e.Holds = []string{"h", "i"} }),
		with(func(e *api.Entry) { e.Slips[0].Name = "A" }),
		with(func(e *api.Entry) { e.Slips[0].Pledge = hash("z") }),
		with(func(e *api.Entry) { e.Slips[1].Pledge = hash("z") }),
		with(func(e *api.Entry) { e.Slips[0].Cipher = repeat("z", 16) }),
		with(func(e *api.Entry) { e.Slips[0] = erased("a") }),
		with(func(e *api.Entry) { e.Slips = e.Slips[:2] }),
		with(func(e *api.Entry) { e.Slips = append(e.Slips, slip("d")) }),
		with(func(e *api.Entry) { e.Slips = gone("a", 0).Slips }),
		with(func(e *api.Entry) { e.Slips, e.Gone = gone("a", 0).Slips, true }),
	}
	for i, x := range scripts {
		for k, y := range scripts {
			if got := state.Same(of(t, x...), of(t, y...)); got != (i == k) {
				t.Errorf("Same of %d and %d is %v", i, k, got)
			}
		}
	}
}

// Promise 16.4: without a state that New created there is nothing, and whatever is applied is ErrState.
func TestNoState(t *testing.T) {
	good := of(t, ofEntry(entry("a", 0)), point(1, "r"))
	for _, s := range []*state.State{nil, {}} {
		for _, v := range []api.Event{{}, {Kind: 9}, ofClock(0), ofClock(5), ofEntry(entry("a", 0)), ofEntry(entry("a", -1)), point(0, "r"), ofGone(0), ofField(0, 0), hold(0, "h"), release(0, "h")} {
			if err := s.Check(v); err != api.ErrState {
				t.Errorf("Check(%+v) = %d", v, err)
			}
			if err := s.Apply(v); err != api.ErrState {
				t.Errorf("Apply(%+v) = %d", v, err)
			}
		}
		for _, seq := range []int{-1, 0, 1} {
			if e, err := s.Entry(seq); !equal(e, api.Entry{}) || err != api.ErrState {
				t.Errorf("Entry(%d) = %+v, %d", seq, e, err)
			}
		}
		for _, id := range []string{"", "a"} {
			if n, err := s.Seq(id); n != 0 || err != api.ErrState {
				t.Errorf("Seq(%q) = %d, %d", id, n, err)
			}
		}
		if s.Len() != 0 || s.Now() != 0 || s.Events() != 0 || len(s.Entries()) != 0 || len(s.Points()) != 0 || len(s.Used()) != 0 || len(s.Snapshot()) != 0 {
			t.Errorf("there is something: %+v, %v", tell(s), s.Snapshot())
		}
		if state.Same(s, s) || state.Same(s, good) || state.Same(good, s) || state.Same(s, nil) || state.Same(s, &state.State{}) || state.Same(s, state.New()) {
			t.Error("it is the same as a state")
		}
	}
}

// R3: a state shares no memory with what it was given, nor with what it tells.
func TestMemory(t *testing.T) {
	e := held(entry("a", 0), "h", "i")
	s := state.New()
	v := ofEntry(e)
	apply(t, s, v, ofEntry(entry("b", 1)), point(1, "r"))
	want := told{[]api.Entry{held(entry("a", 0), "h", "i"), entry("b", 1)}, []api.Point{{Size: 1, Root: hash("r")}}, []int{0, 1}, 0, 3}
	spoil := func(e api.Entry) {
		for i := range e.Slips {
			e.Slips[i] = api.Slip{Name: "?"}
		}
		for i := range e.Holds {
			e.Holds[i] = "?"
		}
		_, _ = append(e.Slips, api.Slip{}), append(e.Holds, "?")
	}
	spoil(e)
	checkTold(t, "after a change of what was applied", s, want)
	one, _ := s.Entry(0)
	spoil(one)
	for _, e := range s.Entries() {
		spoil(e)
	}
	for _, v := range s.Snapshot() {
		spoil(v.Entry)
	}
	s.Points()[0].Size = 9
	s.Used()[0] = 9
	checkTold(t, "after a change of what was told", s, want)
}

// R3: what was told does not change when events are applied afterwards, and neither does what was applied.
func TestToldIsKept(t *testing.T) {
	e := held(entry("a", 0), "i", "k")
	e.Slips, e.Holds = slices.Grow(e.Slips, 9), slices.Grow(e.Holds, 9)
	s := of(t, ofEntry(e), point(1, "r"))
	one, _ := s.Entry(0)
	before, snapshot := tell(s), s.Snapshot()
	apply(t, s, hold(0, "a"), hold(0, "j"), release(0, "i"), release(0, "a"), release(0, "j"), release(0, "k"), ofField(0, 0), ofGone(0), point(1, "q"), ofClock(3))
	want := held(entry("a", 0), "i", "k")
	for _, got := range []api.Entry{e, one, before.entries[0], snapshot[1].Entry} {
		if !equal(got, want) {
			t.Errorf("it has become %+v", got)
		}
	}
	if !slices.Equal(before.points, []api.Point{{Size: 1, Root: hash("r")}}) || !slices.Equal(before.used, []int{0}) || snapshot[2].Point != before.points[0] {
		t.Errorf("it has become %+v, %+v", before, snapshot)
	}
}

// R3: two states that were given the same entry do not change one another.
func TestApart(t *testing.T) {
	v := ofEntry(held(entry("a", 0), "h", "i"))
	a, b := of(t, v), of(t, v)
	apply(t, a, release(0, "h"), release(0, "i"), ofGone(0))
	checkTold(t, "the other one", b, told{[]api.Entry{held(entry("a", 0), "h", "i")}, nil, []int{0}, 0, 1})
	c := of(t, b.Snapshot()...)
	apply(t, c, release(0, "h"), release(0, "i"), ofGone(0))
	checkTold(t, "the one whose snapshot was applied", b, told{[]api.Entry{held(entry("a", 0), "h", "i")}, nil, []int{0}, 0, 1})
}
