package paper_test

import (
	"math"
	"slices"
	"strings"
	"testing"

	"chartulary/api"
	"chartulary/paper"
)

func flag(is bool) api.Value  { return api.Value{Kind: api.Bool, Flag: is} }
func whole(n int64) api.Value { return api.Value{Kind: api.Int, Int: n} }
func bits(b uint64) api.Value { return api.Value{Kind: api.Float, Bits: b} }
func text(s string) api.Value { return api.Value{Kind: api.Text, Text: s} }
func dirty(n int64) api.Value {
	return api.Value{Kind: api.Int, Int: n, Flag: true, Bits: 7, Text: "dirt"}
}
func null(dirt int) api.Value                  { return api.Value{Int: int64(dirt)} }
func repeat(n int) string                      { return strings.Repeat("m", n) }
func unknown(n int) api.Value                  { return api.Value{Kind: n} }
func field(name string, v api.Value) api.Field { return api.Field{Name: name, Value: v} }

// of is a paper of class 2 with an ID and fields.
func of(id string, fields ...api.Field) api.Paper {
	return api.Paper{ID: id, Class: 2, Fields: fields}
}

// named is a paper with a field for each name, which holds the name's place.
func named(names ...string) api.Paper {
	p := of("a")
	for i, name := range names {
		p.Fields = append(p.Fields, field(name, whole(int64(i))))
	}
	return p
}

// letters are the first n names of one letter.
func letters(n int) []string {
	var l []string
	for i := range n {
		l = append(l, string(rune('a'+i)))
	}
	return l
}

// copied is a paper that shares nothing with p.
func copied(p api.Paper) api.Paper {
	p.Fields = slices.Clone(p.Fields)
	return p
}

// equal tells whether two papers are the same field by field, as they stand.
func equal(a, b api.Paper) bool {
	return a.ID == b.ID && a.Class == b.Class && slices.Equal(a.Fields, b.Fields)
}

// wordCharacters are those that the chapter names.
const wordCharacters = "abcdefghijklmnopqrstuvwxyzABCDEFGHIJKLMNOPQRSTUVWXYZ0123456789-_."

// Promise 5.1: every byte is one of a word or not, wherever it stands.
func TestWordCharacters(t *testing.T) {
	for c := range 256 {
		b := string([]byte{byte(c)})
		want := strings.Contains(wordCharacters, b)
		for _, s := range []string{b, b + "a", "a" + b, "a" + b + "a", b + b} {
			if paper.IsID(s) != want || paper.IsName(s) != want {
				t.Errorf("IsID(%q) = %v, IsName = %v, want %v", s, paper.IsID(s), paper.IsName(s), want)
			}
		}
	}
	for _, s := range []string{"\u00e9", "a\u0301", "\u0430", "\uff41", "a b", " a", "a ", "a\n", "a\x00"} {
		if paper.IsID(s) || paper.IsName(s) {
			t.Errorf("%q is an ID or a name", s)
		}
	}
}

// Promise 5.1: how long IDs and names are.
func TestWordLengths(t *testing.T) {
	for n := range 300 {
		s := repeat(n)
		if got, want := paper.IsID(s), n >= 1 && n <= 24; got != want {
			t.Errorf("IsID of %d bytes = %v", n, got)
		}
		if got, want := paper.IsName(s), n >= 1 && n <= 16; got != want {
			t.Errorf("IsName of %d bytes = %v", n, got)
		}
	}
	if !paper.IsID(wordCharacters[41:]) || !paper.IsName(wordCharacters[49:]) {
		t.Error("the last word characters are no ID, or no name")
	}
}

// Promise 5.1: names are in the order of their bytes, and values clean.
func TestTidy(t *testing.T) {
	for _, c := range []struct{ p, want api.Paper }{
		{api.Paper{}, api.Paper{}},
		{of("a"), of("a")},
		{of("a", field("x", flag(true))), of("a", field("x", flag(true)))},
		{of("a", field("y", dirty(1)), field("x", dirty(2))), of("a", field("x", whole(2)), field("y", whole(1)))},
		{of("a", field("x", null(3))), of("a", field("x", null(0)))},
		{of("a", field("x", bits(0xfff0000000000001))), of("a", field("x", bits(0x7ff8000000000001)))},
		{
			of("a", field("b", whole(0)), field("a", whole(1)), field("Z", whole(2)), field("_", whole(3)), field("9", whole(4)), field("-", whole(5)), field(".", whole(6)), field("aa", whole(7)), field("", whole(8)), field("\xff", whole(9))),
			of("a", field("", whole(8)), field("-", whole(5)), field(".", whole(6)), field("9", whole(4)), field("Z", whole(2)), field("_", whole(3)), field("a", whole(1)), field("aa", whole(7)), field("b", whole(0)), field("\xff", whole(9))),
		},
		{
			of("a", field("x", text("1")), field("b", text("2")), field("x", whole(3)), field("b", text("0")), field("x", flag(false))),
			of("a", field("b", text("2")), field("b", text("0")), field("x", text("1")), field("x", whole(3)), field("x", flag(false))),
		},
		{api.Paper{ID: "not an ID", Class: math.MinInt, Fields: []api.Field{field("b", unknown(9)), field("a", text(repeat(300)))}}, api.Paper{ID: "not an ID", Class: math.MinInt, Fields: []api.Field{field("a", text(repeat(300))), field("b", unknown(9))}}},
	} {
		before := copied(c.p)
		if got := paper.Tidy(c.p); !equal(got, c.want) {
			t.Errorf("Tidy(%+v) = %+v, want %+v", before, got, c.want)
		}
		if !equal(c.p, before) {
			t.Errorf("Tidy has changed %+v to %+v", before, c.p)
		}
	}
}

// Promise 5.1: many fields of few names keep their order within a name.
func TestTidyKeepsOrder(t *testing.T) {
	names := make([]string, 500)
	for i := range names {
		names[i] = string(rune('a' + i*i%7))
	}
	fields := paper.Tidy(named(names...)).Fields
	if len(fields) != len(names) {
		t.Fatalf("%d fields of %d", len(fields), len(names))
	}
	for i := range len(fields) - 1 {
		f, g := fields[i], fields[i+1]
		if f.Name > g.Name || f.Name == g.Name && f.Value.Int >= g.Value.Int {
			t.Fatalf("%v stands before %v", f, g)
		}
	}
}

// R3: what Tidy returns is new memory.
func TestTidyIsNew(t *testing.T) {
	p := named("a", "b")
	got := paper.Tidy(p)
	got.Fields[0].Name = "z"
	if p.Fields[0].Name != "a" {
		t.Error("what Tidy returns shares its fields with the argument")
	}
	got = paper.Tidy(p)
	p.Fields[0].Name = "z"
	if got.Fields[0].Name != "a" {
		t.Error("what Tidy returns shares its fields with the argument")
	}
	spare := api.Paper{Fields: append(make([]api.Field, 0, 8), field("a", whole(1)))}
	if again := paper.Tidy(spare); len(append(again.Fields, field("b", whole(2)))) != 2 || spare.Fields[:2][1].Name != "" {
		t.Error("what Tidy returns writes into the argument's spare capacity")
	}
}

// faults are papers with the error of Check; of several errors the one that the chapter names first.
func faults() []struct {
	p   api.Paper
	err api.Errno
} {
	x := field("x", flag(true))
	return []struct {
		p   api.Paper
		err api.Errno
	}{
		{api.Paper{}, api.ErrID},
		{of("a b", x), api.ErrID},
		{of("", x), api.ErrID},
		{of(repeat(25), x), api.ErrID},
		{of("a\x00", x), api.ErrID},
		{api.Paper{ID: "a b", Class: 8}, api.ErrID},
		{api.Paper{ID: "a", Class: 8, Fields: []api.Field{x}}, api.ErrClass},
		{api.Paper{ID: "a", Class: -1, Fields: []api.Field{x}}, api.ErrClass},
		{api.Paper{ID: "a", Class: math.MaxInt, Fields: []api.Field{x}}, api.ErrClass},
		{api.Paper{ID: "a", Class: math.MinInt, Fields: []api.Field{x}}, api.ErrClass},
		{api.Paper{ID: "a", Class: 8}, api.ErrClass},
		{api.Paper{ID: "a", Class: -1, Fields: []api.Field{field("", unknown(9))}}, api.ErrClass},
		{of("a"), api.ErrRange},
		{api.Paper{ID: "a", Fields: []api.Field{}}, api.ErrRange},
		{named(letters(13)...), api.ErrRange},
		{named(make([]string, 13)...), api.ErrRange},
		{named(make([]string, 1000)...), api.ErrRange},
		{of("a", field("", whole(1))), api.ErrName},
		{of("a", field("x y", whole(1))), api.ErrName},
		{of("a", field(repeat(17), whole(1))), api.ErrName},
		{of("a", x, field("", whole(1))), api.ErrName},
		{of("a", field("", unknown(9))), api.ErrName},
		{of("a", field("", whole(1)), field("y", unknown(9))), api.ErrName},
		{of("a", field("z", whole(1)), field("!", whole(2)), field("a", unknown(5))), api.ErrName},
		{of("a", x, x, field("", whole(1))), api.ErrName},
		{of("a", field("x", unknown(5))), api.ErrValue},
		{of("a", field("x", unknown(-1))), api.ErrValue},
		{of("a", field("x", unknown(math.MaxInt))), api.ErrValue},
		{of("a", field("x", unknown(math.MinInt))), api.ErrValue},
		{of("a", field("x", text(repeat(201)))), api.ErrValue},
		{of("a", field("x", unknown(9)), field("", whole(1))), api.ErrValue},
		{of("a", field("z", unknown(9)), field("", whole(1)), field("", whole(2))), api.ErrValue},
		{of("a", x, x, field("y", unknown(9))), api.ErrValue},
		{of("a", x, field("x", unknown(9))), api.ErrValue},
		{of("a", x, x), api.ErrTwice},
		{of("a", x, field("x", whole(3))), api.ErrTwice},
		{of("a", x, field("y", whole(1)), field("X", whole(1)), x), api.ErrTwice},
		{named("a", "b", "c", "d", "e", "f", "g", "h", "i", "j", "k", "k"), api.ErrTwice},
		{named("a", "b", "c", "d", "e", "f", "g", "h", "i", "j", "k", "a"), api.ErrTwice},
	}
}

// papers are valid ones, tidy or not.
func papers() []api.Paper {
	l := []api.Paper{
		of("a", field("x", flag(true))),
		of("a", field("x", flag(false))),
		of("b", field("x", flag(true))),
		of("a", field("y", flag(true))),
		of(repeat(24), field(repeat(16), text(repeat(200)))),
		of("-_.", field(".", api.Value{})),
		of("a", field("y", dirty(1)), field("x", dirty(2))),
		of("a", field("x", whole(2)), field("y", whole(1))),
		of("a", field("x", whole(1)), field("y", whole(2))),
		of("a", field("x", api.Value{Text: repeat(300)})),
		of("a", field("x", whole(math.MinInt64))),
		of("a", field("x", bits(0))),
		of("a", field("x", bits(1<<63))),
		of("a", field("x", bits(0x7ff8000000000001))),
		of("a", field("x", bits(0xffffffffffffffff))),
		of("a", field("x", text(""))),
		of("a", field("xy", text(""))),
		of("ax", field("y", text(""))),
		named(letters(12)...),
		named("l", "k", "j", "i", "h", "g", "f", "e", "d", "c", "b", "a"),
	}
	for class := range 8 {
		l = append(l, api.Paper{ID: "a", Class: class, Fields: []api.Field{field("x", flag(true))}})
	}
	return l
}

// Promise 5.1.
func TestCheck(t *testing.T) {
	for _, p := range papers() {
		before := copied(p)
		if e := paper.Check(p); e != api.OK {
			t.Errorf("Check(%+v) = %d", p, e)
		}
		if !equal(p, before) {
			t.Errorf("Check has changed %+v to %+v", before, p)
		}
	}
	for _, c := range faults() {
		if e := paper.Check(c.p); e != c.err {
			t.Errorf("Check(%+v) = %d, want %d", c.p, e, c.err)
		}
	}
}

// Promise 5.3: the first field with the name, in the paper as it stands.
func TestFind(t *testing.T) {
	p := named("y", "x", "z", "x", "", "Y", "xx")
	for name, want := range map[string]int{"y": 0, "x": 1, "z": 2, "": 4, "Y": 5, "xx": 6, "X": -1, "w": -1, "xxx": -1, "x ": -1} {
		if got := paper.Find(p, name); got != want {
			t.Errorf("Find of %q = %d, want %d", name, got, want)
		}
	}
	for _, name := range []string{"", "x"} {
		if got := paper.Find(api.Paper{ID: "x"}, name); got != -1 {
			t.Errorf("Find of %q without fields = %d", name, got)
		}
	}
}

// same checks whether two papers are the same, and the two turned round.
func same(t *testing.T, a, b api.Paper, want bool) {
	t.Helper()
	x, y := copied(a), copied(b)
	if paper.Same(a, b) != want || paper.Same(b, a) != want {
		t.Errorf("Same(%+v, %+v) is not %v", a, b, want)
	}
	if !equal(a, x) || !equal(b, y) {
		t.Errorf("Same has changed %+v or %+v", x, y)
	}
}

// Promise 5.3: order and dirt make no difference, everything else does, for papers that are not valid too.
func TestSame(t *testing.T) {
	x, y := field("x", whole(1)), field("y", whole(2))
	for _, p := range []api.Paper{{}, of("a b"), of("a", x), of("a", x, y), of("a", x, x), named(make([]string, 20)...), {Class: -1}, of("a", field("x", unknown(9)))} {
		same(t, p, p, true)
		same(t, p, copied(p), true)
		same(t, p, paper.Tidy(p), true)
	}
	for _, c := range []struct {
		a, b api.Paper
		want bool
	}{
		{of("a", x, y), of("a", y, x), true},
		{of("a", field("x", dirty(1))), of("a", x), true},
		{of("a", field("x", bits(0x7ff0000000000001))), of("a", field("x", bits(0xffffffffffffffff))), true},
		{api.Paper{Fields: []api.Field{}}, api.Paper{}, true},
		{of("a", x, y, field("x", whole(3))), of("a", y, x, field("x", whole(3))), true},
		{of("a", x, y, field("x", whole(3))), of("a", y, field("x", whole(3)), x), false},
		{of("a", x), of("b", x), false},
		{of("a", x), api.Paper{ID: "a", Class: 3, Fields: []api.Field{x}}, false},
		{of("a", x), of("a"), false},
		{of("a", x), of("a", x, y), false},
		{of("a", x, y), of("a", x, x), false},
		{of("a", x), of("a", field("X", whole(1))), false},
		{of("a", x), of("a", field("x", whole(2))), false},
		{of("a", x), of("a", field("x", bits(1))), false},
		{of("a", x), of("a", field("x", api.Value{})), false},
		{of("a", field("x", bits(0))), of("a", field("x", bits(1<<63))), false},
		{of("a", field("x", whole(1)), field("y", whole(2))), of("a", field("x", whole(2)), field("y", whole(1))), false},
		{of("a", field("x", unknown(8))), of("a", field("x", unknown(9))), false},
		{of("a", field("x", text(repeat(300)))), of("a", field("x", text(repeat(301)))), false},
	} {
		same(t, c.a, c.b, c.want)
	}
}
