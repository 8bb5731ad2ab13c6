package find_test

import (
	"math"
	"slices"
	"strings"
	"testing"

	"chartulary/api"
	"chartulary/find"
)

type (
	term  = find.Term
	query = find.Query
	paper = api.Paper
)

// errors are the chapter's errors.
const (
	errRange = api.Errno(5)
	errName  = api.Errno(14)
	errValue = api.Errno(15)
)

func flag(is bool) api.Value    { return api.Value{Kind: 1, Flag: is} }
func whole(n int64) api.Value   { return api.Value{Kind: 2, Int: n} }
func bits(b uint64) api.Value   { return api.Value{Kind: 3, Bits: b} }
func float(f float64) api.Value { return bits(math.Float64bits(f)) }
func text(s string) api.Value   { return api.Value{Kind: 4, Text: s} }

// noNumber is the valid NaN, and minus is -0.
var (
	noNumber = bits(0x7ff8000000000001)
	minus    = bits(1 << 63)
)

// field is a field with this name and value.
func field(name string, v api.Value) api.Field {
	return api.Field{Name: name, Value: v}
}

// of is a paper with these fields.
func of(fields ...api.Field) paper {
	return paper{ID: "id", Fields: fields}
}

// each are papers whose field x has one of these values each.
func each(values ...api.Value) []paper {
	var l []paper
	for _, v := range values {
		l = append(l, of(field("a", text("before")), field("x", v), field("z", whole(7))))
	}
	return l
}

// other is a paper that has no field x.
func other() paper {
	return of(field("X", float(9)), field("xx", whole(9)), field("", whole(9)))
}

// low, high and between are terms of field x with these bounds, and not is the opposite of a term.
func low(v api.Value) term  { return term{Name: "x", Low: v, HasLow: true} }
func high(v api.Value) term { return term{Name: "x", High: v, HasTop: true} }
func between(v, w api.Value) term {
	return term{Name: "x", Low: v, High: w, HasLow: true, HasTop: true}
}
func not(t term) term {
	t.Not = !t.Not
	return t
}

// finds checks what a query returns, in any number of papers.
func finds(t *testing.T, q query, l []paper, want ...int) {
	t.Helper()
	got, err := find.Run(q, l)
	if err != api.OK || !slices.Equal(got, want) {
		t.Errorf("Run(%+v) = %v, %v, want %v", q, got, err, want)
	}
}

// The chapter's number.
func TestConstant(t *testing.T) {
	if find.MaxTerms != 8 {
		t.Errorf("MaxTerms = %d", find.MaxTerms)
	}
}

// terms are n terms that are right.
func terms(n int) []term {
	var l []term
	for range n {
		l = append(l, term{Name: "x"})
	}
	return l
}

// rightQueries are queries without an error.
func rightQueries() []query {
	l := []query{
		{},
		{Most: 1},
		{Most: math.MaxInt},
		{Down: true},
		{By: "x"},
		{By: "-_.", Down: true},
		{By: strings.Repeat("y", 16)},
		{Terms: []term{{Name: strings.Repeat("Z", 16)}}},
		{Terms: []term{{Name: "0", Not: true}, {Name: "0", Not: true}, {Name: "0"}}},
		// What a term does not have is not asked.
		{Terms: []term{{Name: "x", Low: api.Value{Kind: 5}, High: api.Value{Kind: -1}}}},
		{Terms: []term{{Name: "x", Low: api.Value{Kind: 5}, HasTop: true}}},
		{Terms: []term{{Name: "x", HasLow: true, High: bits(math.MaxUint64)}}},
		// Bounds between which nothing is.
		{Terms: []term{between(whole(2), whole(1))}},
		{Terms: []term{between(whole(1), text("a"))}},
	}
	for n := range 9 {
		l = append(l, query{Terms: terms(n)})
	}
	for _, v := range pool() {
		l = append(l, query{Terms: []term{low(v.value), high(v.value), not(between(v.value, v.value))}})
	}
	return l
}

// wrongNames are no names.
func wrongNames() []string {
	return []string{"", " ", "a b", "x\n", "ä", "x\x00", "\xff", "a/b", strings.Repeat("y", 17), strings.Repeat("y", 1000)}
}

// wrongValues are no valid values.
func wrongValues() []api.Value {
	return []api.Value{
		{Kind: -1}, {Kind: 5}, {Kind: math.MaxInt}, {Kind: math.MinInt},
		{Flag: true}, {Int: 1}, {Bits: 1}, {Text: "a"},
		{Kind: 1, Int: 1}, {Kind: 2, Flag: true}, {Kind: 3, Text: "a"}, {Kind: 4, Bits: 1},
		bits(0x7ff8000000000000), bits(0x7ff0000000000001), bits(0xfff8000000000001), bits(math.MaxUint64),
		text(strings.Repeat("a", 201)),
	}
}

// wrongQuery is a query with its error.
type wrongQuery struct {
	q   query
	err api.Errno
}

// wrongQueries are queries with an error, and such with several, of which the first one counts.
func wrongQueries() []wrongQuery {
	bad := term{Name: "a b"}
	wrong := term{Name: "x", Low: api.Value{Kind: 5}, HasLow: true}
	l := []wrongQuery{
		{query{Terms: terms(9)}, errRange},
		{query{Terms: terms(1000)}, errRange},
		{query{Terms: append(terms(8), bad)}, errRange},
		{query{Terms: append(terms(8), wrong), By: "a b"}, errRange},
		{query{Terms: terms(9), Most: -1}, errRange},
		{query{Most: -1}, errRange},
		{query{Most: math.MinInt}, errRange},
		{query{Most: -1, By: "a b"}, errRange},
		{query{Most: -1, Terms: []term{bad}}, errRange},
		{query{Most: -1, Terms: []term{wrong}}, errRange},
		{query{By: "a b", Terms: []term{wrong}}, errName},
		{query{By: "a b", Down: true, Terms: []term{wrong}}, errName},
		{query{Terms: []term{wrong, bad}}, errValue},
		{query{Terms: []term{bad, wrong}}, errName},
		{query{Terms: append(terms(7), wrong)}, errValue},
		{query{Terms: append(terms(7), bad)}, errName},
		{query{Terms: []term{{}}}, errName},
		{query{Terms: []term{{Name: "a b", High: api.Value{Kind: 5}, HasTop: true}}}, errName},
		{query{Terms: []term{between(whole(1), api.Value{Kind: 5})}}, errValue},
		{query{Terms: []term{between(api.Value{Kind: 5}, whole(1))}}, errValue},
	}
	for _, name := range wrongNames() {
		l = append(l, wrongQuery{query{Terms: []term{{Name: name}}}, errName})
		if name != "" {
			l = append(l, wrongQuery{query{By: name}, errName})
		}
	}
	for _, v := range wrongValues() {
		l = append(l, wrongQuery{query{Terms: []term{low(v)}}, errValue}, wrongQuery{query{Terms: []term{not(high(v))}}, errValue})
	}
	return l
}

// Promises 17.1 and 17.2: Run has the errors of Check, and finds nothing then.
func TestCheck(t *testing.T) {
	papers := each(whole(1), text("a"))
	for _, q := range rightQueries() {
		if err := find.Check(q); err != api.OK {
			t.Errorf("Check(%+v) = %v", q, err)
		}
		if _, err := find.Run(q, papers); err != api.OK {
			t.Errorf("Run(%+v) = %v", q, err)
		}
	}
	for _, w := range wrongQueries() {
		if err := find.Check(w.q); err != w.err {
			t.Errorf("Check(%+v) = %v, want %v", w.q, err, w.err)
		}
		for _, l := range [][]paper{nil, papers} {
			if got, err := find.Run(w.q, l); len(got) != 0 || err != w.err {
				t.Errorf("Run(%+v) = %v, %v, want %v", w.q, got, err, w.err)
			}
		}
	}
}

// holds checks whether a term holds for a paper that has the field, and that the opposite does not.
func holds(t *testing.T, m term, p paper, want bool) {
	t.Helper()
	if find.Holds(m, p) != want || find.Holds(not(m), p) == want {
		t.Errorf("Holds(%+v, %+v) = %v, want %v; of not %v", m, p, !want, want, find.Holds(not(m), p))
	}
}

// Promise 17.1: every value against bounds of every value; kinds must be the same, and -0 is before 0.
func TestHolds(t *testing.T) {
	for i, v := range pool() {
		p := each(v.value)[0]
		holds(t, term{Name: "x"}, p, true)
		for k, w := range pool() {
			same := v.value.Kind == w.value.Kind
			holds(t, low(w.value), p, same && i >= k)
			holds(t, high(w.value), p, same && i <= k)
			holds(t, between(w.value, w.value), p, i == k)
			for n, x := range pool() {
				holds(t, between(w.value, x.value), p, same && v.value.Kind == x.value.Kind && i >= k && i <= n)
			}
		}
	}
}

// Promise 17.1: without the field no term holds, not even with Not.
func TestHoldsNoField(t *testing.T) {
	for _, p := range []paper{{}, of(), other(), of(field("y", whole(1))), {ID: "x", Class: 1}} {
		for _, m := range []term{{Name: "x"}, low(whole(1)), high(whole(1)), between(whole(9), whole(9)), low(api.Value{}), high(api.Value{})} {
			if find.Holds(m, p) || find.Holds(not(m), p) {
				t.Errorf("%+v holds for %+v", m, p)
			}
		}
	}
}

// Promise 17.1: of several fields with the name the first one counts.
func TestHoldsFirst(t *testing.T) {
	p := of(field("y", whole(3)), field("x", whole(1)), field("x", whole(2)), field("x", whole(3)))
	holds(t, between(whole(1), whole(1)), p, true)
	holds(t, low(whole(2)), p, false)
	holds(t, between(whole(3), whole(3)), p, false)
}

// Promise 17.1: what stands beside a bound that a term does not have is no bound.
func TestHoldsIgnored(t *testing.T) {
	for _, v := range append(wrongValues(), whole(9), whole(-9), text("a")) {
		p := each(whole(1))[0]
		holds(t, term{Name: "x", Low: v, High: v}, p, true)
		holds(t, term{Name: "x", Low: whole(1), HasLow: true, High: v}, p, true)
		holds(t, term{Name: "x", Low: v, High: whole(1), HasTop: true}, p, true)
		holds(t, term{Name: "x", Low: whole(2), HasLow: true, High: v}, p, false)
		holds(t, term{Name: "x", Low: v, High: whole(0), HasTop: true}, p, false)
	}
}

// R1: Holds asks no error of Check; a field may have any name.
func TestHoldsAnyName(t *testing.T) {
	for _, name := range wrongNames() {
		holds(t, term{Name: name}, of(field(name, whole(1))), true)
		if m := (term{Name: name}); find.Holds(m, of(field("x", whole(1)))) || find.Holds(not(m), of(field("x", whole(1)))) {
			t.Errorf("a field %q is there", name)
		}
	}
}

// Promise 17.2: examples 1 and 2 of the chapter.
func TestRunExamples(t *testing.T) {
	l := []paper{of(field("amount", whole(1))), of(field("amount", whole(2))), of(field("amount", whole(3)))}
	finds(t, query{Terms: []term{{Name: "amount", Low: whole(2), HasLow: true}}, Most: 64}, l, 1, 2)

	l = append(each(float(3), float(1), float(2), float(1)), other())
	finds(t, query{By: "x", Down: true, Most: 64}, l, 0, 2, 1, 3, 4)
	if got, err := find.Run(query{By: "x", Most: -1}, l); len(got) != 0 || err != errRange {
		t.Errorf("Run with Most -1 = %v, %v", got, err)
	}
}

// Promise 17.2: at most Most papers, the first ones in order; none if Most is 0.
func TestRunMost(t *testing.T) {
	l := append(each(whole(3), whole(1), whole(2), whole(1)), other())
	for _, c := range []struct {
		q    query
		want []int
	}{
		{query{}, []int{0, 1, 2, 3, 4}},
		{query{By: "x"}, []int{1, 3, 2, 0, 4}},
		{query{By: "x", Down: true}, []int{0, 2, 1, 3, 4}},
		{query{Terms: terms(1)}, []int{0, 1, 2, 3}},
		{query{Terms: []term{low(whole(2))}, By: "x"}, []int{2, 0}},
		{query{Terms: []term{not(low(whole(2)))}, By: "x"}, []int{1, 3}},
	} {
		for _, most := range []int{0, 1, 2, 3, 4, 5, 6, 64, 1 << 32, math.MaxInt} {
			c.q.Most = most
			finds(t, c.q, l, c.want[:min(most, len(c.want))]...)
			finds(t, c.q, nil)
		}
	}
}

// Promise 17.2: all terms must hold, up to 8 of them, about whichever fields.
func TestRunTerms(t *testing.T) {
	var l []paper
	for n := range int64(256) {
		p := paper{ID: "id"}
		for i := range 8 {
			p.Fields = append(p.Fields, field(string(rune('a'+i)), whole(n>>i&1)))
		}
		l = append(l, p)
	}
	q := query{Most: 256}
	want := 256
	for i := range 8 {
		q.Terms = append(q.Terms, term{Name: string(rune('a' + i)), Low: whole(1), HasLow: true, Not: i%2 == 1})
		want /= 2
		if got, err := find.Run(q, l); err != api.OK || len(got) != want {
			t.Errorf("%d terms find %v, %v", i+1, got, err)
		}
	}
	finds(t, q, l, 0b01010101)
	q.Terms[7].Not = false
	finds(t, q, l, 0b11010101)
	finds(t, query{Terms: []term{low(whole(0)), {Name: "a"}}, Most: 256}, l)
}

// Promise 17.2: the order by a field is that of values of all kinds; papers without it come last, also if Down.
func TestRunOrder(t *testing.T) {
	var rising []api.Value
	for _, v := range pool() {
		rising = append(rising, v.value)
	}
	falling := slices.Clone(rising)
	slices.Reverse(falling)
	for n := range rising {
		turned := append(slices.Clone(falling[n:]), falling[:n]...)
		l := slices.Insert(each(turned...), n, other())
		l = append(l, of())
		place := func(v api.Value) int {
			return slices.IndexFunc(l, func(p paper) bool { return len(p.Fields) > 1 && p.Fields[1] == field("x", v) })
		}
		var up, down []int
		for i := range rising {
			up = append(up, place(rising[i]))
			down = append(down, place(falling[i]))
		}
		finds(t, query{By: "x", Most: 1000}, l, append(up, n, len(l)-1)...)
		finds(t, query{By: "x", Down: true, Most: 1000}, l, append(down, n, len(l)-1)...)
	}
}

// Promise 17.2: the first of several fields gives the position, and papers at the same one keep their order.
func TestRunSamePosition(t *testing.T) {
	l := []paper{
		of(field("x", whole(2)), field("x", whole(0))),
		other(),
		of(field("x", whole(1)), field("x", whole(9))),
		of(field("x", whole(2))),
		of(),
		of(field("y", whole(0)), field("x", whole(1))),
	}
	finds(t, query{By: "x", Most: 9}, l, 2, 5, 0, 3, 1, 4)
	finds(t, query{By: "x", Most: 9, Down: true}, l, 0, 3, 2, 5, 1, 4)
	finds(t, query{By: "y", Most: 9}, l, 5, 0, 1, 2, 3, 4)
	finds(t, query{By: "n", Most: 9, Down: true}, l, 0, 1, 2, 3, 4, 5)
	// Down says nothing without a field.
	finds(t, query{Most: 9, Down: true}, l, 0, 1, 2, 3, 4, 5)
}

// Promise 17.2: long lists, with many papers at the same position, as well.
func TestRunMany(t *testing.T) {
	const many = 60_000
	var values []api.Value
	for n := range int64(many) {
		values = append(values, whole(n%7))
	}
	l := each(values...)
	for _, down := range []bool{false, true} {
		got, err := find.Run(query{By: "x", Down: down, Most: many}, l)
		if err != api.OK || len(got) != many {
			t.Fatalf("%d papers, %v", len(got), err)
		}
		for i := range many - 1 {
			a, b := got[i]%7, got[i+1]%7
			if a == b && got[i] >= got[i+1] || a != b && (a > b) != down {
				t.Fatalf("down %v: %d before %d", down, got[i], got[i+1])
			}
		}
	}
}
