package policy_test

import (
	"math/rand/v2"
	"slices"
	"testing"

	"chartulary/policy"
)

// model keeps dues in a list, in no order.
type model struct {
	l []due
}

// sorted are the dues in order, found one by one.
func (m *model) sorted() []due {
	var l []due
	rest := slices.Clone(m.l)
	for len(rest) > 0 {
		k := 0
		for i, d := range rest {
			if d.At < rest[k].At || d.At == rest[k].At && d.Seq < rest[k].Seq {
				k = i
			}
		}
		l = append(l, rest[k])
		rest = slices.Delete(rest, k, k+1)
	}
	return l
}

// remove removes one of the dues that are equal to d.
func (m *model) remove(d due) {
	i := slices.Index(m.l, d)
	m.l = slices.Delete(m.l, i, i+1)
}

// ready are the dues that are ready, in order.
func (m *model) ready(now int, barred []int) []due {
	var l []due
	for _, d := range m.sorted() {
		if d.At <= now && !slices.Contains(barred, d.Seq) {
			l = append(l, d)
		}
	}
	return l
}

// checkReadies compares what is ready at each time, with any few numbers barred.
func (m *model) checkReadies(t *testing.T, q *policy.Queue, r *rand.Rand) {
	t.Helper()
	for now := range 12 {
		var barred []int
		for range r.IntN(8) {
			barred = append(barred, r.IntN(12))
		}
		want := m.ready(now-1, barred)
		checkReady(t, q, now-1, barred, want[:min(1, len(want))]...)
	}
}

// step does one thing to a queue and to the model.
func (m *model) step(t *testing.T, q *policy.Queue, r *rand.Rand) {
	t.Helper()
	sorted := m.sorted()
	switch r.IntN(6) {
	case 0:
		d, ok := q.Take()
		check(t, "Take", d, ok, sorted[:min(1, len(sorted))]...)
		if ok {
			m.remove(d)
		}
	case 1:
		seq := r.IntN(14) - 1
		i := slices.IndexFunc(sorted, func(d due) bool { return d.Seq == seq })
		if got := q.Drop(seq); got != (i >= 0) {
			t.Errorf("Drop(%d) = %v", seq, got)
		}
		if i >= 0 {
			m.remove(sorted[i])
		}
	default:
		d := due{r.IntN(12), r.IntN(10)}
		q.Add(d)
		m.l = append(m.l, d)
	}
}

// Promises 15.2 to 15.4: whatever is done, all that is told is as a list tells it; numbers and deadlines come more than once.
func TestModel(t *testing.T) {
	for seed := range uint64(200) {
		r := rand.New(rand.NewPCG(15, seed))
		var q policy.Queue
		var m model
		for range 80 {
			m.step(t, &q, r)
			checkQueue(t, "after a step", &q, m.sorted())
			m.checkReadies(t, &q, r)
			if t.Failed() {
				t.Fatalf("seed %d", seed)
			}
		}
		checkTaken(t, "at the end", &q, m.sorted())
	}
}

// Promises 15.2 to 15.4: a queue has no limit, and Take and Ready are quick in a long one, whatever is barred.
func TestMany(t *testing.T) {
	const many = 100_000
	r := rand.New(rand.NewPCG(15, many))
	var q policy.Queue
	for _, seq := range r.Perm(many) {
		q.Add(due{seq, seq / 3})
	}
	barred := r.Perm(many - 1)
	checkReady(t, &q, many, barred, due{many - 1, (many - 1) / 3})
	checkReady(t, &q, (many-1)/3-1, barred)
	for seq := range many {
		if seq%1000 == 0 && (!q.Drop(seq) || q.Drop(seq)) {
			t.Fatalf("%d was not dropped once", seq)
		}
	}
	for seq := range many {
		if seq%1000 == 0 {
			continue
		}
		checkReady(t, &q, many, nil, due{seq, seq / 3})
		d, ok := q.Take()
		check(t, "Take", d, ok, due{seq, seq / 3})
	}
	checkQueue(t, "at the end", &q, nil)
}
