package policy

import (
	"cmp"
	"math"
	"slices"
)

// Due is the number of a paper, and its deadline.
type Due struct{ Seq, At int }

// order compares dues by their deadlines, and then by their numbers.
func order(a, b Due) int {
	return cmp.Or(cmp.Compare(a.At, b.At), cmp.Compare(a.Seq, b.Seq))
}

// Queue contains dues; the zero value is empty.
type Queue struct {
	heap []Due // no due is before the one at its parent
}

// Len is the number of dues.
func (q *Queue) Len() int {
	if q == nil {
		return 0
	}
	return len(q.heap)
}

// Add adds a due.
func (q *Queue) Add(d Due) {
	if q == nil {
		return
	}
	q.heap = append(q.heap, d)
	q.rise(len(q.heap) - 1)
}

// First is the first due in order; false: there is none.
func (q *Queue) First() (Due, bool) {
	if q.Len() == 0 {
		return Due{}, false
	}
	return q.heap[0], true
}

// Take removes the first due in order; false: there is none.
func (q *Queue) Take() (Due, bool) {
	d, ok := q.First()
	if ok {
		q.remove(0)
	}
	return d, ok
}

// Drop removes a due with a number, the first in order if there are several; false: there is none.
func (q *Queue) Drop(seq int) bool {
	i := q.find(0, math.MaxInt, func(d Due) bool { return d.Seq == seq })
	if i < 0 {
		return false
	}
	q.remove(i)
	return true
}

// All are all dues in order.
func (q *Queue) All() []Due {
	if q == nil {
		return nil
	}
	return slices.SortedFunc(slices.Values(q.heap), order)
}

// Ready is the first due in order whose deadline is not after now, and whose number is not barred; false: there is none.
func (q *Queue) Ready(now int, barred []int) (Due, bool) {
	// The search asks once for each due that is barred, which would take long in a long list.
	rising := slices.Sorted(slices.Values(barred))
	i := q.find(0, now, func(d Due) bool {
		_, found := slices.BinarySearch(rising, d.Seq)
		return !found
	})
	if i < 0 {
		return Due{}, false
	}
	return q.heap[i], true
}
