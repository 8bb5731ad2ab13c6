package policy_test

import (
	"math"
	"slices"
	"testing"

	"chartulary/policy"
)

type due = policy.Due

// of is a queue to which dues were added one after the other.
func of(l ...due) *policy.Queue {
	var q policy.Queue
	for _, d := range l {
		q.Add(d)
	}
	return &q
}

// numbered are the dues of the papers from 0 on, given their deadlines.
func numbered(ats ...int) []due {
	var l []due
	for seq, at := range ats {
		l = append(l, due{Seq: seq, At: at})
	}
	return l
}

// check checks a due that a call returned; no wanted one: there is none.
func check(t *testing.T, what string, d due, ok bool, want ...due) {
	t.Helper()
	var first due
	if len(want) > 0 {
		first = want[0]
	}
	if d != first || ok != (len(want) > 0) {
		t.Errorf("%s = %v, %v, want %v", what, d, ok, want)
	}
}

// checkQueue checks what is in a queue, given in order.
func checkQueue(t *testing.T, what string, q *policy.Queue, want []due) {
	t.Helper()
	if q.Len() != len(want) {
		t.Errorf("%s: Len = %d, want %d", what, q.Len(), len(want))
	}
	if got := q.All(); !slices.Equal(got, want) {
		t.Errorf("%s: All = %v, want %v", what, got, want)
	}
	d, ok := q.First()
	check(t, what+": First", d, ok, want[:min(1, len(want))]...)
}

// checkReady checks which due is ready.
func checkReady(t *testing.T, q *policy.Queue, now int, barred []int, want ...due) {
	t.Helper()
	d, ok := q.Ready(now, barred)
	check(t, "Ready", d, ok, want...)
}

// checkTaken takes all dues, which are wanted in this order.
func checkTaken(t *testing.T, what string, q *policy.Queue, want []due) {
	t.Helper()
	for i := range want {
		d, ok := q.Take()
		check(t, what+": Take", d, ok, want[i])
		checkQueue(t, what+": after Take", q, want[i+1:])
	}
	d, ok := q.Take()
	check(t, what+": Take", d, ok)
	checkQueue(t, what+": after all", q, nil)
}

// Promise 15.2: example 1 of the chapter.
func TestFirstExample(t *testing.T) {
	q := of(due{1, 5}, due{2, 3})
	d, ok := q.First()
	check(t, "First", d, ok, due{2, 3})
	checkTaken(t, "example", q, []due{{2, 3}, {1, 5}})
}

// Promise 15.3: example 3 of the chapter.
func TestReadyExample(t *testing.T) {
	q := of(numbered(7, 3, 9, 3, 5)...)
	d, ok := q.First()
	check(t, "First", d, ok, due{1, 3})
	checkReady(t, q, 5, []int{1, 3}, due{4, 5})
	checkReady(t, q, 2, nil)
	checkReady(t, q, 5, nil, due{1, 3})
	checkReady(t, q, 5, []int{1}, due{3, 3})
	checkReady(t, q, 4, []int{1, 3})
	checkReady(t, q, 8, []int{1, 3, 4}, due{0, 7})
	checkReady(t, q, 9, []int{1, 3, 4, 0}, due{2, 9})
	checkReady(t, q, 9, []int{4, 3, 2, 1, 0})
	checkTaken(t, "example", q, []due{{1, 3}, {3, 3}, {4, 5}, {0, 7}, {2, 9}})
}

// Promise 15.2: the zero value is empty, and dues can be added to it again when it has become empty.
func TestEmpty(t *testing.T) {
	var q policy.Queue
	for _, seq := range []int{4, 0, -1} {
		checkQueue(t, "empty", &q, nil)
		checkReady(t, &q, math.MaxInt, nil)
		checkReady(t, &q, 5, []int{seq})
		if q.Drop(seq) || q.Drop(0) {
			t.Error("a due of an empty queue was dropped")
		}
		d, ok := q.Take()
		check(t, "Take", d, ok)
		q.Add(due{seq, 5})
		checkQueue(t, "one", &q, []due{{seq, 5}})
		checkTaken(t, "one", &q, []due{{seq, 5}})
	}
	q.Add(due{})
	checkQueue(t, "a due of zeros", &q, []due{{}})
	checkReady(t, &q, 0, nil, due{})
	checkReady(t, &q, -1, nil)
}

// Promise 15.3: a nil queue.
func TestNil(t *testing.T) {
	var q *policy.Queue
	for range 2 {
		checkQueue(t, "nil", q, nil)
		for _, barred := range [][]int{nil, {}, {0}, {1, 2}} {
			checkReady(t, q, math.MaxInt, barred)
			checkReady(t, q, 0, barred)
		}
		if q.Drop(0) || q.Drop(1) {
			t.Error("a due of a nil queue was dropped")
		}
		d, ok := q.Take()
		check(t, "Take", d, ok)
		q.Add(due{1, 1})
	}
}

// Promise 15.2: dues are in order of their deadlines first, then of their numbers, whatever numbers these are.
func TestOrder(t *testing.T) {
	want := []due{
		{math.MaxInt, math.MinInt}, {7, -5}, {8, -5}, {math.MinInt, -1}, {0, -1}, {math.MinInt, 0}, {-1, 0}, {0, 0}, {63, 0},
		{math.MaxInt, 0}, {5, 1}, {4, 2}, {3, latest + longest}, {-7, math.MaxInt}, {6, math.MaxInt},
	}
	checkTaken(t, "rising", of(want...), want)
	falling := slices.Clone(want)
	slices.Reverse(falling)
	checkTaken(t, "falling", of(falling...), want)
	for n := range want {
		checkTaken(t, "turned", of(append(slices.Clone(want[n:]), want[:n]...)...), want)
	}
}

// Promises 15.2 and 15.4: in whatever order dues are added.
func TestAllOrders(t *testing.T) {
	want := []due{{5, 1}, {0, 2}, {4, 2}, {4, 2}, {1, 3}, {3, 9}, {2, 10}}
	var visit func(l, rest []due)
	visit = func(l, rest []due) {
		if len(rest) == 0 {
			checkTaken(t, "all orders", of(l...), want)
		}
		for i, d := range rest {
			visit(append(slices.Clone(l), d), slices.Delete(slices.Clone(rest), i, i+1))
		}
	}
	visit(nil, want)
}

// Promise 15.2: a due is dropped wherever it is, and the others stay.
func TestDrop(t *testing.T) {
	for n := range 40 {
		for step := 1; step < 41; step += 2 {
			var l []due
			for i := range n {
				l = append(l, due{i, i * step % 41})
			}
			for seq := range n {
				q := of(l...)
				if !q.Drop(seq) {
					t.Errorf("%d is not there", seq)
				}
				want := slices.DeleteFunc(slices.Clone(l), func(d due) bool { return d.Seq == seq })
				slices.SortFunc(want, func(a, b due) int { return a.At - b.At })
				if q.Drop(seq) || q.Drop(-1) || q.Drop(n) {
					t.Error("a due that is not there was dropped")
				}
				checkTaken(t, "after Drop", q, want)
			}
		}
	}
}

// Promise 15.2: a deadline is no number.
func TestDropAsksNumbers(t *testing.T) {
	q := of(due{1, 8}, due{2, 9}, due{-3, 7})
	for _, seq := range []int{7, 8, 9, 0, 3, -1, math.MinInt, math.MaxInt} {
		if q.Drop(seq) {
			t.Errorf("%d was dropped", seq)
		}
	}
	checkQueue(t, "nothing dropped", q, []due{{-3, 7}, {1, 8}, {2, 9}})
	if !q.Drop(-3) {
		t.Error("-3 is not there")
	}
	checkTaken(t, "dropped", q, []due{{1, 8}, {2, 9}})
}

// Promise 15.2: one due is dropped, even if there are several of the same number; the deadline may be any.
func TestDropOne(t *testing.T) {
	l := []due{{3, 6}, {1, math.MaxInt}, {2, 5}, {1, 4}, {1, 4}, {1, math.MinInt}}
	q := of(l...)
	for n := range 4 {
		if !q.Drop(1) || q.Len() != 5-n {
			t.Errorf("after %d: %d are left", n+1, q.Len())
		}
	}
	if q.Drop(1) {
		t.Error("a fifth one was dropped")
	}
	checkTaken(t, "the others", q, []due{{2, 5}, {3, 6}})
}

// Promise 15.3: a deadline at the time itself is ready, and dues at the limits are no others.
func TestReadyTimes(t *testing.T) {
	q := of(due{9, math.MinInt}, due{8, -1}, due{7, 0}, due{6, latest + longest}, due{5, math.MaxInt})
	checkReady(t, q, math.MinInt, nil, due{9, math.MinInt})
	checkReady(t, q, math.MinInt, []int{9})
	checkReady(t, q, -2, []int{9})
	checkReady(t, q, -1, []int{9}, due{8, -1})
	checkReady(t, q, -1, []int{9, 8})
	checkReady(t, q, 0, []int{9, 8}, due{7, 0})
	checkReady(t, q, latest+longest-1, []int{9, 8, 7})
	checkReady(t, q, latest+longest, []int{9, 8, 7}, due{6, latest + longest})
	checkReady(t, q, math.MaxInt-1, []int{9, 8, 7, 6})
	checkReady(t, q, math.MaxInt, []int{9, 8, 7, 6}, due{5, math.MaxInt})
	checkReady(t, q, math.MaxInt, []int{9, 8, 7, 6, 5})
}

// Promise 15.3: what is barred may stand in any order, more than once, and be in no due; it bars all dues of its number, and no deadline.
func TestReadyBarred(t *testing.T) {
	q := of(due{1, 2}, due{2, 3}, due{1, 4}, due{3, 5}, due{-4, 6})
	for _, c := range []struct {
		barred []int
		want   []due
	}{
		{nil, []due{{1, 2}}},
		{[]int{}, []due{{1, 2}}},
		{[]int{4, 5, 6, 0, -1, math.MaxInt, math.MinInt}, []due{{1, 2}}},
		{[]int{2}, []due{{1, 2}}},
		{[]int{1}, []due{{2, 3}}},
		{[]int{1, 1, 1}, []due{{2, 3}}},
		{[]int{2, 1}, []due{{3, 5}}},
		{[]int{9, 2, -9, 1, 2, 7, 1}, []due{{3, 5}}},
		{[]int{3, 2, 1}, []due{{-4, 6}}},
		{[]int{2, 3, 4, 1}, []due{{-4, 6}}},
		{[]int{-4, 3, 2, 1}, nil},
		{[]int{1, -4, 2, 3}, nil},
	} {
		before := slices.Clone(c.barred)
		checkReady(t, q, 6, c.barred, c.want...)
		if !slices.Equal(c.barred, before) {
			t.Errorf("Ready has changed %v to %v", before, c.barred)
		}
	}
	checkQueue(t, "after Ready", q, []due{{1, 2}, {2, 3}, {1, 4}, {3, 5}, {-4, 6}})
}

// R3: what All returns is new memory each time.
func TestAllIsNew(t *testing.T) {
	q := of(numbered(7, 3, 9, 3, 5)...)
	want := []due{{1, 3}, {3, 3}, {4, 5}, {0, 7}, {2, 9}}
	l := q.All()
	for i := range l {
		l[i] = due{99, -99}
	}
	_ = append(l[:0], due{98, -98})
	checkQueue(t, "after a change", q, want)
	l = q.All()
	q.Take()
	q.Add(due{6, 1})
	q.Drop(4)
	if !slices.Equal(l, want) {
		t.Errorf("what All returned has become %v", l)
	}
}

// R4: queues are apart from each other.
func TestApart(t *testing.T) {
	a, b := of(due{1, 1}), of(due{1, 1})
	a.Add(due{2, 0})
	b.Take()
	checkQueue(t, "one", a, []due{{2, 0}, {1, 1}})
	checkQueue(t, "the other", b, nil)
}
