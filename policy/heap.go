package policy

// children are the places below i, where there may be dues.
func children(i int) [2]int {
	return [2]int{2*i + 1, 2*i + 2}
}

// parent is the place above i.
func parent(i int) int {
	return (i - 1) / 2
}

// before tells whether the due at i is before the one at k.
func (q *Queue) before(i, k int) bool {
	return order(q.heap[i], q.heap[k]) < 0
}

// swap lets two dues change their places.
func (q *Queue) swap(i, k int) {
	q.heap[i], q.heap[k] = q.heap[k], q.heap[i]
}

// rise moves the due at i up to where no due above it comes after it.
func (q *Queue) rise(i int) {
	for i > 0 && q.before(i, parent(i)) {
		q.swap(i, parent(i))
		i = parent(i)
	}
}

// sink moves the due at i down to where no due below it comes before it.
func (q *Queue) sink(i int) {
	for {
		first := i
		for _, c := range children(i) {
			if c < len(q.heap) && q.before(c, first) {
				first = c
			}
		}
		if first == i {
			return
		}
		q.swap(i, first)
		i = first
	}
}

// remove removes the due at i.
func (q *Queue) remove(i int) {
	last := len(q.heap) - 1
	q.swap(i, last)
	q.heap = q.heap[:last]
	if i < last {
		// The due that was the last one may come from another branch, and so be before its new parent.
		q.rise(i)
		q.sink(i)
	}
}

// find is the place of the first due in order that suits, and whose deadline is not after now, of the one at i and those below; -1: there is none.
func (q *Queue) find(i, now int, suits func(d Due) bool) int {
	// No due below is before the one at i, so that its branch need not be searched when this one is too late, or suits.
	if i >= q.Len() || q.heap[i].At > now {
		return -1
	}
	if suits(q.heap[i]) {
		return i
	}
	first := -1
	for _, c := range children(i) {
		if k := q.find(c, now, suits); k >= 0 && (first < 0 || q.before(k, first)) {
			first = k
		}
	}
	return first
}
