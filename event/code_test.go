package event_test

import (
	"testing"

	"chartulary/api"
	"chartulary/event"
	"chartulary/octet"
)

// coded is a clean event with the encoding that the chapter gives it.
type coded struct {
	s string
	v api.Event
}

func encodings() []coded {
	return []coded{
		{"\x01\x03\x01\x05", ofGone(5)},
		{"\x01\x03\x00", ofGone(0)},
		{"\x01\x02\x01\x3f\x01\x0b", ofField(63, 11)},
		{"\x01\x02\x00\x00", ofField(0, 0)},
		{"\x01\x04\x01\x07\x01\x02h.", hold(7, "h.")},
		{"\x01\x04\x00\x01\x10" + repeat("h", 16), hold(0, repeat("h", 16))},
		{"\x01\x05\x01\x07\x01\x02h.", release(7, "h.")},
		{"\x01\x06\x01\x40\x01\x20" + hash("r"), point(64, hash("r"))},
		{"\x01\x06\x00\x01\x20" + hash("\x00"), point(0, hash("\x00"))},
		{"\x01\x07\x00", ofClock(0)},
		{"\x01\x07\x02\x01\x02", ofClock(258)},
		{"\x01\x07\x06\x01\x00\x00\x00\x00\x00", ofClock(1 << 40)},
		{
			"\x01\x01" + "\x01\x02id" + "\x01\x02" + "\x02\x01\x2c" + "\x01\x05" + "\x00" + "\x01\x02\x01\x01h\x01\x01i" +
				"\x01\x02" + "\x01\x01a\x01\x20" + hash("p") + "\x00\x01\x10" + repeat("c", 16) + "\x01\x01b\x01\x20" + hash("p") + "\x01",
			ofEntry(entry()),
		},
		{
			"\x01\x01" + "\x01\x02id" + "\x01\x02" + "\x02\x01\x2c" + "\x01\x05" + "\x01" + "\x00" +
				"\x01\x02" + "\x01\x01a\x01\x20" + hash("p") + "\x01" + "\x01\x01b\x01\x20" + hash("p") + "\x01",
			ofEntry(gone()),
		},
		{
			"\x01\x01" + "\x01\x18" + repeat("-", 24) + "\x01\x07" + "\x06\x01\x00\x00\x00\x00\x00" + "\x01\x3f" + "\x00" + "\x01\x01\x01\x01h" +
				"\x01\x01" + "\x01\x10" + repeat("_", 16) + "\x01\x20" + hash("\xff") + "\x00\x01\xe0" + repeat("\x00", 224),
			ofEntry(api.Entry{ID: repeat("-", 24), Class: 7, Born: 1 << 40, Slot: 63, Slips: []api.Slip{{Name: repeat("_", 16), Pledge: hash("\xff"), Cipher: repeat("\x00", 224)}}, Holds: []string{"h"}}),
		},
		{
			"\x01\x01" + "\x01\x01A" + "\x00\x00\x00" + "\x01" + "\x01\x04\x01\x01a\x01\x01b\x01\x01c\x01\x01d" +
				"\x01\x01" + "\x01\x01x\x01\x20" + hash("p") + "\x01",
			ofEntry(api.Entry{ID: "A", Slips: []api.Slip{erased("x")}, Gone: true, Holds: letters(4)}),
		},
	}
}

// Promise 14.2: the bytes are those of the chapter, whatever the kind does not use.
func TestBytes(t *testing.T) {
	for _, c := range encodings() {
		for _, v := range append(dirty(c.v), c.v) {
			before := copied(v)
			if got := event.Bytes(v); got != c.s {
				t.Errorf("Bytes(%+v) = %q, want %q", v, got, c.s)
			}
			if !equal(v, before) {
				t.Errorf("Bytes has changed %+v to %+v", before, v)
			}
		}
	}
	for _, v := range wrong() {
		if got := event.Bytes(v); got != "" {
			t.Errorf("Bytes(%+v) = %q", v, got)
		}
	}
}

// reads checks what is read of s.
func reads(t *testing.T, s string, want api.Event, err api.Errno) {
	t.Helper()
	if v, e := event.Read(s); !equal(v, want) || e != err {
		t.Errorf("Read of %.80q = %+v, %d, want %+v, %d", s, v, e, want, err)
	}
}

// Promise 14.2: a part of an encoding is too short, and a longer one is of no form.
func TestRead(t *testing.T) {
	for _, c := range encodings() {
		reads(t, c.s, c.v, api.OK)
		for n := range len(c.s) {
			reads(t, c.s[:n], api.Event{}, api.ErrShort)
		}
		for _, more := range []string{"\x00", "z", c.s} {
			reads(t, c.s+more, api.Event{}, api.ErrForm)
		}
	}
}

// Promise 14.3: what is read of the encoding of a valid event is the event, clean.
func TestReadOfBytes(t *testing.T) {
	for _, v := range right() {
		for _, d := range append(dirty(v), v) {
			reads(t, event.Bytes(d), event.Clean(d), api.OK)
		}
	}
}

// R3: what Read returns is new each time.
func TestReadIsNew(t *testing.T) {
	s := event.Bytes(ofEntry(entry()))
	v, _ := event.Read(s)
	v.Entry.Slips[0].Name, v.Entry.Holds[0] = "z", "z"
	reads(t, s, ofEntry(entry()), api.OK)
}

// written are the encodings of parts: numbers, strings, lists of strings and booleans.
func written(parts ...any) string {
	var w octet.Writer
	for _, part := range parts {
		switch x := part.(type) {
		case int:
			w.Num(x)
		case string:
			w.Text(x)
		case []string:
			w.Texts(x...)
		case bool:
			w.Flag(x)
		}
	}
	s, ok := w.All()
	if !ok {
		panic("not written")
	}
	return s
}

// head are the bytes of an event of the kind EvPaper up to its holds, and whole those up to its slips.
func head(id string, class, born, slot int, gone bool) string {
	return written(api.EvPaper, id, class, born, slot, gone)
}

func whole(holds ...string) string {
	return head("id", 2, 300, 5, false) + written(holds)
}

// Promise 14.2: of several errors, the first one that is met; every number and every string has its limit.
func TestReadTooLong(t *testing.T) {
	p, c := hash("p"), repeat("c", 16)
	for _, s := range []string{
		"\x01\x08",
		"\x01\x09",
		"\x01\x09\x08",
		"\x02\x01\x03",
		written(api.EvField, 64),
		written(api.EvField, 64, 0),
		written(api.EvField, 0, 12),
		written(api.EvField, 1<<50, 0) + "more",
		written(api.EvGone, 64),
		written(api.EvGone, 256),
		written(api.EvHold, 64, "h"),
		written(api.EvHold, 64, "a b"),
		written(api.EvHold, 0, repeat("h", 17)),
		written(api.EvHold, 0, 17),
		written(api.EvRelease, 64, "h"),
		written(api.EvRelease, 0, repeat("h", 17)),
		written(api.EvPoint, 65, hash("r")),
		written(api.EvPoint, 65, 33),
		written(api.EvPoint, 64, 33),
		written(api.EvPoint, 0, repeat("r", 33)),
		written(api.EvClock, 1<<40+1),
		written(api.EvClock, 1<<56-1),
		written(api.EvPaper, 25),
		head(repeat("a", 25), 2, 300, 5, false),
		head("id", 8, 300, 5, false),
		head("a b", 8, 300, 5, false),
		head("id", 2, 1<<40+1, 5, false),
		head("id", 2, 300, 64, false),
		head("id", 2, 300, 64, false) + "\x02",
		head("id", 2, 300, 5, false) + written(5),
		head("id", 2, 300, 5, true) + written(1<<30),
		whole(repeat("h", 17)),
		whole("a", repeat("h", 17)),
		whole("a", "b", "c", "d", "e"),
		whole("b", "a") + written(13),
		whole() + written(13),
		whole() + written(1<<50),
		whole() + written(1, repeat("a", 17)),
		whole() + written(1, 17),
		whole() + written(1, "a", 33),
		whole() + written(1, "a", p+"p", false, c),
		whole() + written(1, "a", p, false, 225),
		whole() + written(1, "a", p, false, repeat("c", 225)),
		whole() + written(1, "", "", false, 225),
		whole() + written(2, "a", p, true, "b", 33),
		whole() + written(2, "b", p, true, "a", p, false, 225),
	} {
		reads(t, s, api.Event{}, api.ErrLong)
	}
}

// Promise 14.2: a kind, a number, a length or a boolean that is encoded in no form, or of which bytes are left or missing.
func TestReadNoEncoding(t *testing.T) {
	p, c := hash("p"), repeat("c", 16)
	for _, s := range []string{
		"\x08",
		"\x01\x00",
		"\x01\x00more",
		"\x02\x00\x03\x00",
		"\x01\x03\x08",
		"\x01\x03\x01\x00",
		"\x01\x02\x00\x01\x00",
		"\x01\x04\x00\x08",
		"\x01\x07\x07\x00\x00\x00\x00\x00\x00\x01",
		head("id", 2, 300, 5, false)[:8] + "\x08",
		written(api.EvPaper, "id", 2, 300, 5) + "\x02",
		written(api.EvPaper, "id", 2, 300, 5) + "\xff",
		head("id", 2, 300, 5, false) + "\x08",
		whole() + "\x08",
		whole() + written(1, "a", p) + "\x02",
		whole() + written(1, "a", p, false) + "\x08",
		whole() + written(1, "a", p, true, c),
		whole() + written(1, "a", p, false, c) + "\x00",
		written(api.EvClock, 0) + "\x00",
		written(api.EvGone, 0, 0),
		written(api.EvHold, 0, "h", "i"),
	} {
		reads(t, s, api.Event{}, api.ErrForm)
	}
	for _, s := range []string{
		"",
		"\x01",
		"\x01\x03",
		"\x01\x03\x02\x01",
		written(api.EvHold, 0) + "\x01\x05hold",
		written(api.EvPoint, 0) + "\x01\x20" + repeat("r", 31),
		head("id", 2, 300, 5, false) + written(4, "b", "a"),
		whole() + written(2, "a", p, false, c),
		whole() + written(1, "a", p, false),
		whole() + written(1, "a", p, false) + "\x01\x10" + repeat("c", 15),
	} {
		reads(t, s, api.Event{}, api.ErrShort)
	}
}

// raw are the bytes of an event of the kind EvPaper, be it valid or not.
func raw(e api.Entry) string {
	s := head(e.ID, e.Class, e.Born, e.Slot, e.Gone) + written(e.Holds, len(e.Slips))
	for _, l := range e.Slips {
		s += written(l.Name, l.Pledge, l.Erased)
		if !l.Erased {
			s += written(l.Cipher)
		}
	}
	return s
}

// fits tells whether an entry can be encoded so that it is read again, for its strings and lists are short enough, and no cipher is lost.
func fits(e api.Entry) bool {
	if len(e.ID) > 24 || len(e.Slips) > 12 || len(e.Holds) > 4 {
		return false
	}
	for _, h := range e.Holds {
		if len(h) > 16 {
			return false
		}
	}
	for _, s := range e.Slips {
		if len(s.Name) > 16 || len(s.Pledge) > 32 || len(s.Cipher) > 224 || s.Erased && s.Cipher != "" {
			return false
		}
	}
	return true
}

// Promise 14.2: what is encoded well, but is not valid, is of no form.
func TestReadNotValid(t *testing.T) {
	for _, e := range rightEntries() {
		reads(t, raw(e), ofEntry(e), api.OK)
	}
	count := 0
	for _, e := range wrongEntries() {
		if fits(e) {
			reads(t, raw(e), api.Event{}, api.ErrForm)
			count++
		}
	}
	if count == 0 {
		t.Error("no entry was read")
	}
	for _, s := range []string{
		written(api.EvHold, 0, ""),
		written(api.EvHold, 0, "a b"),
		written(api.EvRelease, 63, ""),
		written(api.EvRelease, 63, "\x00"),
		written(api.EvPoint, 0, ""),
		written(api.EvPoint, 64, repeat("r", 31)),
	} {
		reads(t, s, api.Event{}, api.ErrForm)
	}
}

// Promise 14.2: two events are the same if and only if they are valid, and clean the same.
func TestSame(t *testing.T) {
	l := right()
	for i, a := range l {
		for j, b := range l {
			if got := event.Same(a, b); got != (i == j) {
				t.Errorf("Same(%+v, %+v) = %v", a, b, got)
			}
		}
		for _, d := range dirty(a) {
			x, y := copied(a), copied(d)
			if !event.Same(a, d) || !event.Same(d, a) || !event.Same(d, d) {
				t.Errorf("Same(%+v, %+v) is false", a, d)
			}
			if !equal(a, x) || !equal(d, y) {
				t.Errorf("Same has changed %+v or %+v", x, y)
			}
		}
		for _, b := range wrong() {
			if event.Same(a, b) || event.Same(b, a) {
				t.Errorf("%+v and %+v are the same", a, b)
			}
		}
	}
	for _, v := range wrong() {
		if event.Same(v, v) {
			t.Errorf("%+v is the same as itself", v)
		}
	}
}

// Promise 14.2: nil and the empty list are the same.
func TestEmptyLists(t *testing.T) {
	a, b := ofEntry(withHolds()), ofEntry(withHolds())
	a.Entry.Holds, b.Entry.Holds = nil, []string{}
	if !event.Right(b) || !event.Same(a, b) || event.RightEntry(api.Entry{ID: "a", Slips: []api.Slip{}}) {
		t.Error("nil and the empty list differ")
	}
}

// canonical checks that what is read of s is clean and valid, and encoded as s again.
func canonical(t *testing.T, s string) {
	t.Helper()
	v, e := event.Read(s)
	if e != api.OK {
		if !equal(v, api.Event{}) {
			t.Fatalf("Read of %q = %+v beside %d", s, v, e)
		}
		return
	}
	if event.Bytes(v) != s || !event.Right(v) || !equal(v, event.Clean(v)) {
		t.Fatalf("%q is read as %+v", s, v)
	}
}

// Promise 14.3: whatever byte of an encoding is replaced, removed or doubled, no other bytes are read as the same event.
func TestChangedEncodings(t *testing.T) {
	for _, c := range encodings() {
		for i := range len(c.s) {
			canonical(t, c.s[:i]+c.s[i+1:])
			canonical(t, c.s[:i+1]+c.s[i:])
			for b := range 256 {
				canonical(t, c.s[:i]+string([]byte{byte(b)})+c.s[i+1:])
			}
		}
	}
}

// Promise 14.3: every short string is that of one event at most.
func TestShortStrings(t *testing.T) {
	marks := []byte{0, 1, 2, 3, 4, 5, 6, 7, 8, 11, 12, 63, 64, 'a', 255}
	var visit func(s string, more int)
	visit = func(s string, more int) {
		canonical(t, s)
		if more == 0 {
			return
		}
		for _, b := range marks {
			visit(s+string([]byte{b}), more-1)
		}
	}
	visit("", 4)
	visit("\x01\x02", 4)
	visit("\x01\x04", 4)
	visit("\x01\x07", 4)
}
