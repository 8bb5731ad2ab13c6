package find_test

import (
	"math"
	"math/rand/v2"
	"slices"
	"strings"
	"testing"

	"chartulary/api"
	"chartulary/find"
)

// entry is a valid value, and the integer that it is.
type entry struct {
	value   api.Value
	isWhole bool
	n       int64
}

// none and is are values that are no integer, and such that are one.
func none(v api.Value) entry        { return entry{value: v} }
func is(v api.Value, n int64) entry { return entry{v, true, n} }

// pool are different values in the order of chapter 4.
func pool() []entry {
	l := []entry{none(api.Value{}), none(flag(false)), none(flag(true))}
	for _, n := range []int64{math.MinInt64, math.MinInt64 + 1, -3, -1, 0, 1, 2, 3, 1<<53 + 1, math.MaxInt64} {
		l = append(l, is(whole(n), n))
	}
	return append(l,
		none(float(math.Inf(-1))), none(float(-math.MaxFloat64)), none(float(-(1<<63 + 2048))), is(float(-1<<63), math.MinInt64),
		is(float(-3), -3), none(float(-2.5)), is(float(-1), -1), none(float(-math.SmallestNonzeroFloat64)), is(minus, 0),
		is(float(0), 0), none(float(math.SmallestNonzeroFloat64)), none(float(0.5)), is(float(1), 1), is(float(2), 2), none(float(2.5)), is(float(3), 3),
		is(float(1<<63-1024), 1<<63-1024), none(float(1<<63)), none(float(math.MaxFloat64)), none(float(math.Inf(1))), none(noNumber),
		none(text("")), none(text("\x00")), none(text("1")), none(text("A")), none(text("a")), none(text("a\x00")), none(text("aa")), none(text("b")),
		none(text("ä")), none(text("\xff")), none(text(strings.Repeat("\xff", 200))),
	)
}

// world is papers whose values are places in the pool.
type world struct {
	pool   []entry
	papers []map[string]int
	l      []paper
}

// makeWorld makes papers, with other fields between theirs and some that come twice.
func makeWorld(r *rand.Rand) *world {
	w := &world{pool: pool()}
	few := 1 + r.IntN(len(w.pool))
	for range r.IntN(20) {
		values := map[string]int{}
		p := paper{ID: "id", Class: r.IntN(8)}
		for range r.IntN(5) {
			name, i := string(rune('x'+r.IntN(3))), len(w.pool)-1-r.IntN(few)
			if few%2 == 0 {
				i = r.IntN(few)
			}
			p.Fields = append(p.Fields, field(name, w.pool[i].value))
			if _, twice := values[name]; !twice {
				values[name] = i
			}
		}
		w.papers = append(w.papers, values)
		w.l = append(w.l, p)
	}
	return w
}

// bounds are a term, whose bounds are places in the pool.
type bounds struct {
	name      string
	low, high int // -1: there is none
	not       bool
}

// makeTerm makes a term, with something in what it does not have.
func (w *world) makeTerm(r *rand.Rand) (bounds, term) {
	b := bounds{string(rune('x' + r.IntN(3))), r.IntN(len(w.pool)), r.IntN(len(w.pool)), r.IntN(3) == 0}
	if r.IntN(3) > 0 {
		// Bounds of one kind let more through.
		b.high = min(len(w.pool)-1, b.low+r.IntN(20))
	}
	m := term{Name: b.name, Low: w.pool[b.low].value, High: w.pool[b.high].value, Not: b.not}
	if r.IntN(3) == 0 {
		b.low = -1
	}
	if r.IntN(3) == 0 {
		b.high = -1
	}
	m.HasLow, m.HasTop = b.low >= 0, b.high >= 0
	return b, m
}

// holds tells whether a term holds for a paper.
func (w *world) holds(b bounds, values map[string]int) bool {
	i, ok := values[b.name]
	if !ok {
		return false
	}
	within := true
	if b.low >= 0 {
		within = within && i >= b.low && w.pool[i].value.Kind == w.pool[b.low].value.Kind
	}
	if b.high >= 0 {
		within = within && i <= b.high && w.pool[i].value.Kind == w.pool[b.high].value.Kind
	}
	return within != b.not
}

// found are the papers that are wanted, in the order in which one after the other is picked: the first one, or of those with the field the first one of the least, or greatest, value.
func (w *world) found(terms []bounds, q query) []int {
	var rest, l []int
	for i, values := range w.papers {
		if !slices.ContainsFunc(terms, func(b bounds) bool { return !w.holds(b, values) }) {
			rest = append(rest, i)
		}
	}
	for len(rest) > 0 && len(l) < q.Most {
		best := 0
		for k := range rest {
			if q.By != "" && w.before(rest[k], rest[best], q) {
				best = k
			}
		}
		l = append(l, rest[best])
		rest = slices.Delete(rest, best, best+1)
	}
	return l
}

// before tells whether one paper's position is before that of the other one.
func (w *world) before(i, k int, q query) bool {
	a, hasA := w.papers[i][q.By]
	b, hasB := w.papers[k][q.By]
	if !hasA || !hasB {
		return hasA && !hasB
	}
	return q.Down && a > b || !q.Down && a < b
}

// checkRun compares what a query finds, and tells how many that are.
func (w *world) checkRun(t *testing.T, r *rand.Rand) int {
	t.Helper()
	var terms []bounds
	q := query{By: []string{"", "x", "y", "n"}[r.IntN(4)], Down: r.IntN(2) == 0, Most: r.IntN(25)}
	for range r.IntN(4) {
		b, m := w.makeTerm(r)
		terms, q.Terms = append(terms, b), append(q.Terms, m)
	}
	finds(t, q, w.l, w.found(terms, q)...)
	w.checkMoreTerms(t, q, r)
	return len(w.found(terms, q))
}

// checkMoreTerms checks that a term more finds none but those that were found without it.
func (w *world) checkMoreTerms(t *testing.T, q query, r *rand.Rand) {
	t.Helper()
	before, _ := find.Run(q, w.l)
	_, m := w.makeTerm(r)
	more := q
	more.Terms = append(slices.Clone(q.Terms), m)
	after, err := find.Run(more, w.l)
	if err != api.OK || len(after) > len(before) {
		t.Errorf("%+v finds %v, without the last term %v", more, after, before)
	}
	for _, i := range after {
		if q.Most >= len(w.l) && !slices.Contains(before, i) {
			t.Errorf("%+v finds %d, but not without the last term", more, i)
		}
	}
}

// checkNot checks that a term and its opposite find all papers with the field, each of them once.
func (w *world) checkNot(t *testing.T, r *rand.Rand) {
	t.Helper()
	_, m := w.makeTerm(r)
	one, _ := find.Run(query{Terms: []term{m}, Most: 99}, w.l)
	other, _ := find.Run(query{Terms: []term{not(m)}, Most: 99}, w.l)
	var want []int
	for i, values := range w.papers {
		if _, ok := values[m.Name]; ok {
			want = append(want, i)
		}
	}
	if got := slices.Sorted(slices.Values(append(one, other...))); !slices.Equal(got, want) {
		t.Errorf("%+v and its opposite find %v, want %v", m, got, want)
	}
}

// places are the places in the pool that the papers have in field x, in the papers' order.
func (w *world) places() []int {
	var l []int
	for _, values := range w.papers {
		if i, ok := values["x"]; ok {
			l = append(l, i)
		}
	}
	return l
}

// checkGroups compares the groups.
func (w *world) checkGroups(t *testing.T) {
	t.Helper()
	var want []group
	for i := range w.pool {
		n := 0
		for _, place := range w.places() {
			if place == i {
				n++
			}
		}
		if n > 0 {
			want = append(want, group{w.pool[i].value, n})
		}
	}
	checkGroups(t, w.l, want...)
}

// checkNumbers compares what is told about integers and floats.
func (w *world) checkNumbers(t *testing.T) {
	t.Helper()
	var integers []int64
	var extremes []int
	var floats []api.Value
	for _, i := range w.places() {
		e := w.pool[i]
		if e.isWhole {
			integers = append(integers, e.n)
		}
		if e.value.Kind == 3 {
			floats = append(floats, e.value)
			if e.value != noNumber {
				extremes = append(extremes, i)
			}
		}
	}
	slices.Sort(integers)
	slices.Sort(extremes)
	if n := len(integers); n > 0 {
		checkSum(t, w.l, n, integers[0], integers[n-1])
	} else {
		checkSum(t, w.l, 0, 0, 0)
	}
	if n := len(extremes); n > 0 {
		checkExtremes(t, w.l, w.pool[extremes[0]].value, w.pool[extremes[n-1]].value)
	} else {
		checkExtremes(t, w.l)
	}
	checkMean(t, w.l, mean(floats)...)
}

// mean is the mean of floats, if there are any.
func mean(floats []api.Value) []api.Value {
	if len(floats) == 0 {
		return nil
	}
	sum := 0.0
	for _, v := range floats {
		sum += math.Float64frombits(v.Bits)
	}
	sum /= float64(len(floats))
	if sum != sum {
		return []api.Value{noNumber}
	}
	return []api.Value{float(sum)}
}

// copied are papers with lists of their own.
func copied(l []paper) []paper {
	l = slices.Clone(l)
	for i := range l {
		l[i].Fields = slices.Clone(l[i].Fields)
	}
	return l
}

// same tells whether papers are equal.
func same(p, q paper) bool {
	return p.ID == q.ID && p.Class == q.Class && slices.Equal(p.Fields, q.Fields)
}

// Promises 17.1 to 17.4, and R3: whatever the papers, all that is told is as a simple model tells it, and the papers stay as they are.
func TestModel(t *testing.T) {
	met := map[int]int{}
	for seed := range uint64(1500) {
		r := rand.New(rand.NewPCG(17, seed))
		w := makeWorld(r)
		before := copied(w.l)
		for range 20 {
			met[w.checkRun(t, r)]++
			w.checkNot(t, r)
		}
		w.checkGroups(t)
		w.checkNumbers(t)
		if !slices.EqualFunc(w.l, before, same) {
			t.Errorf("the papers have become %v", w.l)
		}
		if t.Failed() {
			t.Fatalf("seed %d", seed)
		}
	}
	for n := range 15 {
		if met[n] < 5 {
			t.Errorf("%d papers were found %d times", n, met[n])
		}
	}
}

// R3: a query stays as it is, and results are new memory each time.
func TestNewMemory(t *testing.T) {
	l := each(whole(3), whole(1), whole(2))
	q := query{Terms: append(make([]term, 0, 9), low(whole(1)), high(whole(3))), By: "x", Down: true, Most: 9}
	before := slices.Clone(q.Terms)
	for range 2 {
		got, _ := find.Run(q, l)
		_ = append(got[:0], 9, 9, 9)
		groups := find.Groups("x", l)
		_ = append(groups[:0], group{}, group{}, group{})
	}
	finds(t, q, l, 0, 2, 1)
	checkGroups(t, l, group{whole(1), 1}, group{whole(2), 1}, group{whole(3), 1})
	if !slices.Equal(q.Terms, before) || !slices.Equal(q.Terms[:9], append(before, make([]term, 7)...)) {
		t.Errorf("the terms have become %+v", q.Terms[:9])
	}
}
