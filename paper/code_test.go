package paper_test

import (
	"slices"
	"strings"
	"testing"

	"chartulary/api"
	"chartulary/octet"
	"chartulary/paper"
)

// encodings are what the chapter says that papers are encoded as, and the papers, tidy.
func encodings() map[string]api.Paper {
	return map[string]api.Paper{
		"\x01\x01a\x01\x02\x01\x01\x01\x01x\x01\x03\x01\x01\x01":                                                               of("a", field("x", flag(true))),
		"\x01\x01a\x00\x01\x01\x01\x01x\x01\x01\x00":                                                                           {ID: "a", Fields: []api.Field{field("x", api.Value{})}},
		"\x01\x02A.\x01\x07\x01\x01\x01\x02-9\x01\x03\x01\x04\x00":                                                             {ID: "A.", Class: 7, Fields: []api.Field{field("-9", text(""))}},
		"\x01\x01a\x01\x02\x01\x02\x01\x01x\x01\x0a\x01\x02\x00\x00\x00\x00\x00\x00\x00\x02\x01\x01y\x01\x05\x01\x04\x01\x01z": of("a", field("x", whole(2)), field("y", text("z"))),
		"\x01\x01a\x01\x02\x01\x01\x01\x01x\x01\x0a\x01\x03\x7f\xf8\x00\x00\x00\x00\x00\x01":                                   of("a", field("x", bits(0x7ff8000000000001))),
		"\x01\x18" + repeat(24) + "\x01\x02\x01\x01\x01\x10" + repeat(16) + "\x01\xcc\x01\x04\x01\xc8" + repeat(200):           of(repeat(24), field(repeat(16), text(repeat(200)))),
	}
}

// Promise 5.2.
func TestBytes(t *testing.T) {
	for want, p := range encodings() {
		for _, q := range untidy(p) {
			before := copied(q)
			if got, e := paper.Bytes(q); got != want || e != api.OK {
				t.Errorf("Bytes(%+v) = %q, %d, want %q", q, got, e, want)
			}
			if !equal(q, before) {
				t.Errorf("Bytes has changed %+v to %+v", before, q)
			}
		}
	}
	for _, c := range faults() {
		if got, e := paper.Bytes(c.p); got != "" || e != c.err {
			t.Errorf("Bytes(%+v) = %q, %d, want %d", c.p, got, e, c.err)
		}
	}
}

// untidy are p, p with its fields turned round, and p with dirt in its values.
func untidy(p api.Paper) []api.Paper {
	round := copied(p)
	slices.Reverse(round.Fields)
	dirt := copied(p)
	for i, f := range dirt.Fields {
		v := &dirt.Fields[i].Value
		v.Flag = v.Flag || f.Value.Kind != api.Bool
		if f.Value.Kind != api.Int {
			v.Int = 5
		}
		if f.Value.Kind != api.Text {
			v.Text = repeat(300)
		}
	}
	return []api.Paper{p, round, dirt}
}

// reads checks what is read of s.
func reads(t *testing.T, s string, want api.Paper, err api.Errno) {
	t.Helper()
	if p, e := paper.Read(s); !equal(p, want) || e != err {
		t.Errorf("Read of %.60q = %+v, %d, want %+v, %d", s, p, e, want, err)
	}
}

// Promise 5.2: a part of an encoding is too short, and a longer one is of no form.
func TestRead(t *testing.T) {
	for s, p := range encodings() {
		reads(t, s, p, api.OK)
		for n := range len(s) {
			reads(t, s[:n], api.Paper{}, api.ErrShort)
		}
		for _, more := range []string{"\x00", "z", s} {
			reads(t, s+more, api.Paper{}, api.ErrForm)
		}
	}
	for _, p := range papers() {
		s, _ := paper.Bytes(p)
		reads(t, s, paper.Tidy(p), api.OK)
	}
}

// written are the bytes of a paper's parts, be they as they may: the ID, the class and the number of the fields, and the strings that follow.
func written(id string, class, count int, l ...string) string {
	var w octet.Writer
	w.Text(id)
	w.Num(class)
	w.Num(count)
	for _, part := range l {
		w.Text(part)
	}
	s, ok := w.All()
	if !ok {
		panic("not written")
	}
	return s
}

// Values as they stand in an encoding.
const (
	nullBytes  = "\x00"
	trueBytes  = "\x01\x01\x01"
	falseBytes = "\x01\x01\x00"
)

// Promise 5.2: of several errors, the first one that is met; what no paper is encoded as is of no form.
func TestReadErrors(t *testing.T) {
	for _, c := range []struct {
		s   string
		err api.Errno
	}{
		{"", api.ErrShort},
		{"\x09", api.ErrForm},
		{"\x01\x18" + repeat(23), api.ErrShort},
		{"\x01\x19", api.ErrLong},
		{written(repeat(25), 2, 1, "x", trueBytes), api.ErrLong},
		{written("a", 8, 1, "x", trueBytes), api.ErrLong},
		{written("a", 8, 0), api.ErrLong},
		{written("a", 1<<40, 1, "x", trueBytes), api.ErrLong},
		{written("a", 2, 13, "x", trueBytes), api.ErrLong},
		{written("a", 2, 13), api.ErrLong},
		{written("a", 2, 1<<50), api.ErrLong},
		{written("a", 2, 1, repeat(17), trueBytes), api.ErrLong},
		{written("a", 2, 1, "x", repeat(209)), api.ErrLong},
		{written("a", 2, 1, "x", "\x01\x04\x01\xc9"+repeat(201)), api.ErrLong},
		{written("a", 2, 1, "x", "\x01\x05"), api.ErrLong},
		{written("a", 2, 1, "x", trueBytes+repeat(205)), api.ErrForm},
		{written("a", 2, 1, "x", "\x01\x04\x01\xc8"+repeat(204)), api.ErrForm},
		{written("a", 2, 1, "x", ""), api.ErrShort},
		{written("a", 2, 1, "x", "\x01"), api.ErrShort},
		{written("a", 2, 1, "x", "\x01\x01"), api.ErrShort},
		{written("a", 2, 1, "x", trueBytes+"\x00"), api.ErrForm},
		{written("a", 2, 1, "x", "\x01\x01\x02"), api.ErrForm},
		{written("a", 2, 1, "x", "\x01\x00"), api.ErrForm},
		{written("a", 2, 1, "x", "\x01\x03\x7f\xf8\x00\x00\x00\x00\x00\x00"), api.ErrForm},
		{written("a", 2, 1, "x", "\x01", "z"), api.ErrShort},
		{written("a", 2, 2, "x", "\x01\x05", "y", ""), api.ErrLong},
		{written("a", 2, 2, "x", "", "y", "\x01\x05"), api.ErrShort},
		{written("a", 2, 2, "x", trueBytes+"\x00", "y", ""), api.ErrForm},
		{written("a", 2, 2, "x", "", repeat(17), trueBytes), api.ErrShort},
		{written("a", 2, 2, "x", "\x01\x05"), api.ErrLong},
		{written("a", 2, 2, repeat(17), ""), api.ErrLong},
		{written("a", 2, 2, "x", trueBytes), api.ErrShort},
		{written("a", 2, 2, "y", trueBytes, "x"), api.ErrShort},
		{written("a b", 2, 2, "x", trueBytes), api.ErrShort},
		{written("a b", 2, 1, "x", "\x01\x05"), api.ErrLong},
		{written("a b", 9, 1, "x", trueBytes), api.ErrLong},
		{written("a", 2, 2, "x", trueBytes, "y", trueBytes) + "\x00", api.ErrForm},
		{written("", 2, 1, "x", trueBytes), api.ErrForm},
		{written("a b", 2, 1, "x", trueBytes), api.ErrForm},
		{written("a", 2, 0), api.ErrForm},
		{written("a", 2, 0, "x", trueBytes), api.ErrForm},
		{written("a", 2, 1, "", trueBytes), api.ErrForm},
		{written("a", 2, 1, "x!", trueBytes), api.ErrForm},
		{written("a", 2, 2, "y", trueBytes, "x", trueBytes), api.ErrForm},
		{written("a", 2, 2, "x", trueBytes, "X", trueBytes), api.ErrForm},
		{written("a", 2, 2, "x", trueBytes, "x", trueBytes), api.ErrForm},
		{written("a", 2, 2, "x", trueBytes, "x", falseBytes), api.ErrForm},
		{"\x02\x00\x01a\x01\x02\x01\x01\x01\x01x\x01\x01\x00", api.ErrForm},
		{"\x01\x01a\x01\x00\x01\x01\x01\x01x\x01\x01\x00", api.ErrForm},
		{"\x01\x01a\x01\x02\x02\x00\x01\x01\x01x\x01\x01\x00", api.ErrForm},
	} {
		reads(t, c.s, api.Paper{}, c.err)
	}
}

// R3: what Read returns is new each time.
func TestReadIsNew(t *testing.T) {
	s, _ := paper.Bytes(named("a", "b"))
	p, _ := paper.Read(s)
	p.Fields[0].Name = "z"
	reads(t, s, named("a", "b"), api.OK)
}

// Promise 5.4, with every paper against every other.
func TestOneEncodingEach(t *testing.T) {
	for _, a := range papers() {
		for _, b := range papers() {
			s, _ := paper.Bytes(a)
			u, _ := paper.Bytes(b)
			tidy := equal(paper.Tidy(a), paper.Tidy(b))
			if (s == u) != tidy || paper.Same(a, b) != tidy {
				t.Errorf("%+v and %+v have the same encoding: %v, are the same: %v", a, b, s == u, paper.Same(a, b))
			}
		}
	}
}

// canonical checks that what is read of s is tidy and valid, and encoded as s again.
func canonical(t *testing.T, s string) {
	t.Helper()
	p, e := paper.Read(s)
	if e != api.OK {
		if !equal(p, api.Paper{}) {
			t.Fatalf("Read of %q = %+v beside %d", s, p, e)
		}
		return
	}
	again, e := paper.Bytes(p)
	if e != api.OK || again != s || !equal(p, paper.Tidy(p)) {
		t.Fatalf("%q is read as %+v", s, p)
	}
}

// Promise 5.4: whatever byte of an encoding is replaced, removed or doubled, no other bytes are read as the same paper.
func TestChangedEncodings(t *testing.T) {
	for s := range encodings() {
		for i := range len(s) {
			canonical(t, s[:i]+s[i+1:])
			canonical(t, s[:i+1]+s[i:])
			for c := range 256 {
				canonical(t, s[:i]+string([]byte{byte(c)})+s[i+1:])
			}
		}
	}
	parts := []string{"x", "y", "", trueBytes, nullBytes}
	for _, a := range parts {
		for _, b := range parts {
			for _, c := range parts {
				for _, d := range parts {
					canonical(t, written("a", 2, 2, a, b, c, d))
				}
			}
		}
	}
	canonical(t, strings.Repeat("\x00", 64))
}
