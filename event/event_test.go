package event_test

import (
	"math"
	"slices"
	"strings"
	"testing"

	"chartulary/api"
	"chartulary/event"
)

func repeat(c string, n int) string { return strings.Repeat(c, n) }

// hash is a string of 32 bytes.
func hash(c string) string { return repeat(c, 32) }

func slip(name string) api.Slip {
	return api.Slip{Name: name, Pledge: hash("p"), Cipher: repeat("c", 16)}
}

func erased(name string) api.Slip {
	return api.Slip{Name: name, Pledge: hash("p"), Erased: true}
}

// entry is a valid one with the slips a and b, and the holds h and i.
func entry() api.Entry {
	return api.Entry{ID: "id", Class: 2, Born: 300, Slot: 5, Slips: []api.Slip{slip("a"), erased("b")}, Holds: []string{"h", "i"}}
}

// gone is a valid entry that is Gone.
func gone() api.Entry {
	return api.Entry{ID: "id", Class: 2, Born: 300, Slot: 5, Slips: []api.Slip{erased("a"), erased("b")}, Gone: true}
}

// with is a valid entry that was changed.
func with(change func(e *api.Entry)) api.Entry {
	e := entry()
	change(&e)
	return e
}

// withSlips is an entry with slips of these names, and withHolds one with these holds.
func withSlips(names ...string) api.Entry {
	return with(func(e *api.Entry) {
		e.Slips = nil
		for _, name := range names {
			e.Slips = append(e.Slips, slip(name))
		}
	})
}

func withHolds(names ...string) api.Entry {
	return with(func(e *api.Entry) { e.Holds = names })
}

// withSlip is an entry whose second slip is this one.
func withSlip(s api.Slip) api.Entry {
	return with(func(e *api.Entry) { e.Slips[1] = s })
}

// letters are the first n names of one letter.
func letters(n int) []string {
	var l []string
	for i := range n {
		l = append(l, string(rune('a'+i)))
	}
	return l
}

// rightEntries are valid entries, no two of which are equal.
func rightEntries() []api.Entry {
	l := []api.Entry{
		entry(),
		gone(),
		{ID: "a", Slips: []api.Slip{erased("a")}},
		{ID: "a", Slips: []api.Slip{erased("a")}, Gone: true},
		{ID: "a", Slips: []api.Slip{erased("a")}, Gone: true, Holds: []string{"h"}},
		{ID: "a", Slips: []api.Slip{slip("a")}},
		{ID: "a", Slips: []api.Slip{slip("a")}, Holds: []string{"a"}},
		{ID: repeat("-", 24), Class: 7, Born: 1 << 40, Slot: 63, Slips: []api.Slip{slip(repeat("_", 16))}, Holds: []string{repeat(".", 16)}},
		with(func(e *api.Entry) { e.ID = "ie" }),
		with(func(e *api.Entry) { e.Class = 3 }),
		with(func(e *api.Entry) { e.Born = 301 }),
		with(func(e *api.Entry) { e.Slot = 6 }),
		withSlips("a"),
		withSlips("a", "b"),
		withSlips("b", "c"),
		withSlips("Z", "a"),
		withSlips("a", "aa"),
		withSlips(".", "0", "A", "_", "a"),
		withSlips(letters(12)...),
		withHolds(),
		withHolds("h"),
		withHolds("i"),
		withHolds("a", "b"),
		withHolds("-", "9", "Z", "z"),
		withHolds("h", "h-", "hh", "i"),
		withSlip(api.Slip{Name: "b", Pledge: hash("q"), Erased: true}),
		withSlip(api.Slip{Name: "b", Pledge: hash("\x00"), Cipher: repeat("\x00", 16)}),
		withSlip(api.Slip{Name: "b", Pledge: hash("\xff"), Cipher: repeat("\xff", 224)}),
	}
	for n := 16; n <= 224; n += 52 {
		l = append(l, withSlip(api.Slip{Name: "b", Pledge: hash("n"), Cipher: repeat("c", n)}))
	}
	return l
}

// wrongEntries are entries that are not valid, each of them for one reason.
func wrongEntries() []api.Entry {
	l := []api.Entry{
		{},
		with(func(e *api.Entry) { e.ID = "" }),
		with(func(e *api.Entry) { e.ID = "a b" }),
		with(func(e *api.Entry) { e.ID = "\u00e9" }),
		with(func(e *api.Entry) { e.ID = repeat("a", 25) }),
		withSlips(),
		withSlips(letters(13)...),
		withSlips(""),
		withSlips("", "a"),
		withSlips("a", "b "),
		withSlips("a", "\xff"),
		withSlips(repeat("a", 17)),
		withSlips("a", "a"),
		withSlips("b", "a"),
		withSlips("a", "Z"),
		withSlips("aa", "a"),
		withSlips("a", "c", "b"),
		withSlips("b", "a", "c"),
		withSlips("a", "b", "b"),
		withSlips("a", "b", "a"),
		withHolds(""),
		withHolds("a", "a"),
		withHolds("b", "a"),
		withHolds("", "a"),
		withHolds("a", "a b"),
		withHolds("a", "b", "\x7f"),
		withHolds("a", repeat("b", 17)),
		withHolds("a", "b", "d", "c"),
		withHolds("a", "b", "c", "c"),
		withHolds("a", "b", "c", "d", "e"),
		with(func(e *api.Entry) { e.Gone = true }),
		with(func(e *api.Entry) { e.Gone, e.Slips[0], e.Slips[1] = true, erased("a"), slip("b") }),
		withSlip(api.Slip{Name: "b", Pledge: hash("p"), Erased: true, Cipher: "c"}),
		withSlip(api.Slip{Name: "b", Pledge: hash("p"), Erased: true, Cipher: repeat("c", 16)}),
	}
	for _, n := range []int{0, 1, 15, 225, 1000} {
		l = append(l, withSlip(api.Slip{Name: "b", Pledge: hash("p"), Cipher: repeat("c", n)}))
	}
	for _, n := range []int{0, 31, 33, 64} {
		l = append(l, withSlip(api.Slip{Name: "b", Pledge: repeat("p", n), Cipher: repeat("c", 16)}))
		l = append(l, withSlip(api.Slip{Name: "b", Pledge: repeat("p", n), Erased: true}))
	}
	return l
}

func ofEntry(e api.Entry) api.Event { return api.Event{Kind: api.EvPaper, Entry: e} }
func ofField(seq, i int) api.Event  { return api.Event{Kind: api.EvField, Seq: seq, Index: i} }
func ofGone(seq int) api.Event      { return api.Event{Kind: api.EvGone, Seq: seq} }
func ofClock(now int) api.Event     { return api.Event{Kind: api.EvClock, Now: now} }
func hold(seq int, n string) api.Event {
	return api.Event{Kind: api.EvHold, Seq: seq, Name: n}
}
func release(seq int, n string) api.Event {
	return api.Event{Kind: api.EvRelease, Seq: seq, Name: n}
}
func point(size int, root string) api.Event {
	return api.Event{Kind: api.EvPoint, Point: api.Point{Size: size, Root: root}}
}

// right are valid events, clean, no two of which are equal.
func right() []api.Event {
	l := []api.Event{
		ofField(0, 0), ofField(0, 1), ofField(1, 0), ofField(63, 11),
		ofGone(0), ofGone(1), ofGone(63),
		hold(0, "h"), hold(0, "i"), hold(1, "h"), hold(63, repeat("h", 16)),
		release(0, "h"), release(0, "i"), release(1, "h"), release(63, repeat("h", 16)),
		point(0, hash("\x00")), point(0, hash("r")), point(1, hash("r")), point(64, hash("\xff")),
		ofClock(0), ofClock(1), ofClock(256), ofClock(1 << 40),
	}
	for _, e := range rightEntries() {
		l = append(l, ofEntry(e))
	}
	return l
}

// wrong are events that are not valid; the limits of their numbers are for TestNumbers.
func wrong() []api.Event {
	l := []api.Event{
		{},
		{Kind: -1}, {Kind: 8}, {Kind: 9}, {Kind: 256 + 3}, {Kind: math.MinInt}, {Kind: math.MaxInt},
		hold(0, ""), hold(0, "h i"), hold(0, repeat("h", 17)),
		release(0, ""), release(0, "\u00e9"), release(0, repeat("h", 17)),
		point(0, ""), point(0, repeat("r", 31)), point(0, repeat("r", 33)),
	}
	for _, e := range wrongEntries() {
		l = append(l, ofEntry(e))
	}
	return l
}

// dirty are v with contents that its kind does not use, which are not valid themselves.
func dirty(v api.Event) []api.Event {
	var l []api.Event
	for _, other := range []api.Event{
		{Entry: with(func(e *api.Entry) { e.ID = "" }), Seq: -1, Index: 12, Name: "", Point: api.Point{Size: 65}, Now: -1},
		{Seq: 64, Index: math.MinInt, Name: repeat("n", 300), Point: api.Point{Size: -1, Root: hash("r")}, Now: 1<<40 + 1},
		{Entry: entry(), Seq: 9, Index: 8, Name: "n", Point: api.Point{Size: 7, Root: hash("r")}, Now: 6},
	} {
		d := other
		d.Kind = v.Kind
		switch v.Kind {
		case api.EvPaper:
			d.Entry = v.Entry
		case api.EvField:
			d.Seq, d.Index = v.Seq, v.Index
		case api.EvGone:
			d.Seq = v.Seq
		case api.EvHold, api.EvRelease:
			d.Seq, d.Name = v.Seq, v.Name
		case api.EvPoint:
			d.Point = v.Point
		case api.EvClock:
			d.Now = v.Now
		}
		l = append(l, d)
	}
	return l
}

// copied is an event that shares nothing with v.
func copied(v api.Event) api.Event {
	v.Entry.Slips = slices.Clone(v.Entry.Slips)
	v.Entry.Holds = slices.Clone(v.Entry.Holds)
	return v
}

// equal tells whether two events are the same as they stand.
func equal(a, b api.Event) bool {
	if !slices.Equal(a.Entry.Slips, b.Entry.Slips) || !slices.Equal(a.Entry.Holds, b.Entry.Holds) {
		return false
	}
	x, y := a.Entry, b.Entry
	return a.Kind == b.Kind && x.ID == y.ID && x.Class == y.Class && x.Born == y.Born && x.Slot == y.Slot && x.Gone == y.Gone &&
		a.Seq == b.Seq && a.Index == b.Index && a.Name == b.Name && a.Point == b.Point && a.Now == b.Now
}

// Promise 14.1: what the kind uses stays as it is, valid or not, and nothing else does.
func TestClean(t *testing.T) {
	for _, v := range append(right(), wrong()...) {
		for _, d := range append(dirty(v), v) {
			before := copied(d)
			if got := event.Clean(d); !equal(got, v) {
				t.Errorf("Clean(%+v) = %+v, want %+v", d, got, v)
			}
			if !equal(d, before) {
				t.Errorf("Clean has changed %+v to %+v", before, d)
			}
		}
	}
}

// Promise 14.1: contents that are not valid are contents, too.
func TestCleanKeepsWhatIsWrong(t *testing.T) {
	for _, v := range []api.Event{
		ofField(-1, 12), ofField(64, math.MinInt), ofGone(math.MaxInt), hold(-1, ""), release(64, "a b"), point(65, "r"), ofClock(-1),
		ofEntry(api.Entry{ID: "a b", Class: -1, Born: -1, Slot: 64, Slips: []api.Slip{slip("b"), {Name: "", Cipher: "c", Erased: true}}, Gone: true, Holds: []string{"b", "a"}}),
	} {
		if got := event.Clean(v); !equal(got, v) {
			t.Errorf("Clean(%+v) = %+v", v, got)
		}
	}
}

// R3: what Clean returns is new memory.
func TestCleanIsNew(t *testing.T) {
	v := ofEntry(entry())
	got := event.Clean(v)
	got.Entry.Slips[0].Name, got.Entry.Holds[0] = "z", "z"
	if !equal(v, ofEntry(entry())) {
		t.Error("what Clean returns shares its lists with the argument")
	}
	got = event.Clean(v)
	v.Entry.Slips[0].Name, v.Entry.Holds[0] = "z", "z"
	if !equal(got, ofEntry(entry())) {
		t.Error("what Clean returns shares its lists with the argument")
	}
	slips := append(make([]api.Slip, 0, 8), slip("a"))
	holds := append(make([]string, 0, 8), "h")
	got = event.Clean(ofEntry(with(func(e *api.Entry) { e.Slips, e.Holds = slips, holds })))
	if len(append(got.Entry.Slips, slip("b"))) != 2 || len(append(got.Entry.Holds, "i")) != 2 || slips[:2][1].Name != "" || holds[:2][1] != "" {
		t.Error("what Clean returns writes into the argument's spare capacity")
	}
}

// checkRight checks whether an event is valid, and whether it is encoded at all.
func checkRight(t *testing.T, v api.Event, want bool) {
	t.Helper()
	before := copied(v)
	if got := event.Right(v); got != want {
		t.Errorf("Right(%+v) = %v", v, got)
	}
	if got := event.Bytes(v); (got != "") != want {
		t.Errorf("Bytes(%+v) = %q", v, got)
	}
	if !equal(v, before) {
		t.Errorf("Right or Bytes has changed %+v to %+v", before, v)
	}
}

// Promise 14.1: what the kind does not use makes no difference.
func TestRight(t *testing.T) {
	for _, v := range right() {
		checkRight(t, v, true)
		for _, d := range dirty(v) {
			checkRight(t, d, true)
		}
	}
	for _, v := range wrong() {
		checkRight(t, v, false)
		for _, d := range dirty(v) {
			checkRight(t, d, false)
		}
	}
}

// Promise 14.1.
func TestRightEntry(t *testing.T) {
	for _, e := range rightEntries() {
		if !event.RightEntry(e) {
			t.Errorf("RightEntry(%+v) is false", e)
		}
	}
	for _, e := range wrongEntries() {
		before := copied(ofEntry(e))
		if event.RightEntry(e) {
			t.Errorf("RightEntry(%+v) is true", e)
		}
		if !equal(before, ofEntry(e)) {
			t.Errorf("RightEntry has changed %+v to %+v", before.Entry, e)
		}
	}
}

// Promise 14.1: how long the words and the strings of a slip are.
func TestLengths(t *testing.T) {
	for n := range 300 {
		s := repeat("m", n)
		name := n >= 1 && n <= 16
		checkRight(t, ofEntry(with(func(e *api.Entry) { e.ID = s })), n >= 1 && n <= 24)
		checkRight(t, ofEntry(withSlips(s)), name)
		checkRight(t, ofEntry(withHolds(s)), name)
		checkRight(t, hold(1, s), name)
		checkRight(t, release(1, s), name)
		checkRight(t, point(1, s), n == 32)
		checkRight(t, ofEntry(withSlip(api.Slip{Name: "b", Pledge: s, Cipher: repeat("c", 16)})), n == 32)
		checkRight(t, ofEntry(withSlip(api.Slip{Name: "b", Pledge: s, Erased: true})), n == 32)
		checkRight(t, ofEntry(withSlip(api.Slip{Name: "b", Pledge: hash("p"), Cipher: s})), n >= 16 && n <= 224)
		checkRight(t, ofEntry(withSlip(api.Slip{Name: "b", Pledge: hash("p"), Cipher: s, Erased: true})), n == 0)
	}
	if event.MaxCipher != 224 {
		t.Errorf("MaxCipher = %d", event.MaxCipher)
	}
}

// Promise 14.1: how many slips and holds an entry has.
func TestCounts(t *testing.T) {
	for n := range 27 {
		checkRight(t, ofEntry(withSlips(letters(n)...)), n >= 1 && n <= 12)
		checkRight(t, ofEntry(withHolds(letters(n)...)), n <= 4)
	}
}

// numbers are the places of numbers in an event, with the greatest that may stand there.
func numbers() map[string]struct {
	put  func(n int) api.Event
	most int
} {
	type place = struct {
		put  func(n int) api.Event
		most int
	}
	return map[string]place{
		"class":         {func(n int) api.Event { return ofEntry(with(func(e *api.Entry) { e.Class = n })) }, 7},
		"born":          {func(n int) api.Event { return ofEntry(with(func(e *api.Entry) { e.Born = n })) }, 1 << 40},
		"slot":          {func(n int) api.Event { return ofEntry(with(func(e *api.Entry) { e.Slot = n })) }, 63},
		"field's seq":   {func(n int) api.Event { return ofField(n, 11) }, 63},
		"index":         {func(n int) api.Event { return ofField(63, n) }, 11},
		"gone's seq":    {ofGone, 63},
		"hold's seq":    {func(n int) api.Event { return hold(n, "h") }, 63},
		"release's seq": {func(n int) api.Event { return release(n, "h") }, 63},
		"size":          {func(n int) api.Event { return point(n, hash("r")) }, 64},
		"now":           {ofClock, 1 << 40},
	}
}

// Promise 14.1: the limits of every number.
func TestNumbers(t *testing.T) {
	for name, p := range numbers() {
		for _, n := range []int{math.MinInt, -256, -1, 0, 1, p.most - 1, p.most, p.most + 1, 2*p.most + 1, p.most + 1<<8, p.most + 1<<32, 1 << 56, math.MaxInt} {
			v := p.put(n)
			if want := n >= 0 && n <= p.most; event.Right(v) != want || (event.Bytes(v) != "") != want || event.Same(v, v) != want {
				t.Errorf("%s %d: Right = %v, Bytes = %q, Same = %v", name, n, event.Right(v), event.Bytes(v), event.Same(v, v))
			}
			if v.Kind == api.EvPaper && event.RightEntry(v.Entry) != event.Right(v) {
				t.Errorf("%s %d: RightEntry = %v", name, n, event.RightEntry(v.Entry))
			}
		}
	}
}
