package merkle_test

import (
	"math"
	"math/bits"
	"slices"
	"testing"

	"chartulary/api"
	"chartulary/merkle"
	"chartulary/mill"
)

// growthOf is the growth proof from a leaves: the greatest tree at the end of the older one, if it is not all of it, and its path.
func growthOf(l []string, a int) []string {
	if a == 0 || a == len(l) {
		return nil
	}
	var p []string
	low := bits.TrailingZeros(uint(a))
	for h := 0; len(l) > 1; l, h = up(l), h+1 {
		i := (a - 1) >> h
		if h == low && i > 0 {
			p = append(p, l[i])
		}
		if h >= low && i^1 < len(l) {
			p = append(p, l[i^1])
		}
	}
	return p
}

// verify tells whether p proves that one tree extends another one, as RFC 9162 verifies it, for sizes other than 0.
func verify(from, to api.Point, p []string) bool {
	if from.Size == to.Size {
		return len(p) == 0 && from.Root == to.Root
	}
	if from.Size&(from.Size-1) == 0 {
		p = append([]string{from.Root}, p...)
	}
	if len(p) == 0 {
		return false
	}
	i, last := from.Size-1, to.Size-1
	for i%2 == 1 {
		i, last = i/2, last/2
	}
	older, newer := p[0], p[0]
	for _, s := range p[1:] {
		if last == 0 {
			return false
		}
		if i%2 == 1 || i == last {
			older, newer = node(s, older), node(s, newer)
			for i%2 == 0 && i != 0 {
				i, last = i/2, last/2
			}
		} else {
			newer = node(newer, s)
		}
		i, last = i/2, last/2
	}
	return last == 0 && older == from.Root && newer == to.Root
}

// point is the checkpoint of leaves.
func point(l []string) api.Point {
	return api.Point{Size: len(l), Root: rootOf(l)}
}

// checkGrowth checks what Growth answers.
func checkGrowth(t *testing.T, l []string, a int, want []string) {
	t.Helper()
	list, room := spare(l)
	if got, e := merkle.Growth(mill.New(), list, a); e != api.OK || !slices.Equal(got, want) {
		t.Errorf("Growth from %d of %d leaves = %x, %v, want %x", a, len(l), got, e, want)
	}
	checkSpare(t, "Growth", list, l, room)
}

// checkGrown checks what Grown answers.
func checkGrown(t *testing.T, what string, from, to api.Point, p []string, want api.Errno) {
	t.Helper()
	list, room := spare(p)
	if e := merkle.Grown(mill.New(), from, to, list); e != want {
		t.Errorf("%s: Grown from %d to %d by %d elements = %v, want %v", what, from.Size, to.Size, len(p), e, want)
	}
	checkSpare(t, "Grown", list, p, room)
}

// Promise 7.1, the example of RFC 6962.
func TestGrowthOfRFC6962(t *testing.T) {
	l, by := seven()
	for a, s := range []string{"", "bhl", "hl", "cdgl", "l", "efjk", "ijk", ""} {
		checkGrowth(t, l, a, spell(by, s))
	}
}

// Promise 7.1.
func TestGrowth(t *testing.T) {
	for n := range 70 {
		l := leaves(n)
		for a := range n + 1 {
			checkGrowth(t, l, a, growthOf(l, a))
		}
	}
	many := leaves(merkle.Most + 1)
	for _, a := range []int{0, 1, 40001, merkle.Most - 1, merkle.Most, merkle.Most + 1} {
		checkGrowth(t, many, a, growthOf(many, a))
	}
	checkGrowth(t, []string{"", "x", "y"}, 1, []string{"x", "y"})
	checkGrowth(t, []string{"", "x", "y"}, 2, []string{"y"})
}

// Promise 7.1.
func TestGrowthWrongSize(t *testing.T) {
	for n := range 9 {
		for _, a := range []int{-1, n + 1, n + 2, math.MaxInt, math.MinInt} {
			if p, e := merkle.Growth(mill.New(), leaves(n), a); len(p) != 0 || e != api.ErrSize {
				t.Errorf("Growth from %d of %d leaves = %x, %v, want ErrSize", a, n, p, e)
			}
		}
	}
}

// Rule R3: a proof is the caller's.
func TestGrowthIsNew(t *testing.T) {
	l := leaves(7)
	for a := range 8 {
		p, _ := merkle.Growth(mill.New(), l, a)
		p = p[:cap(p)]
		for j := range p {
			p[j] = "changed"
		}
		if !slices.Equal(l, leaves(7)) {
			t.Fatalf("a change of the growth proof from %d changed the leaves", a)
		}
		checkGrowth(t, l, a, growthOf(l, a))
	}
}

// Promises 7.3 and 7.5, example 2.
func TestGrown(t *testing.T) {
	for n := range 70 {
		l := leaves(n)
		for a := range n + 1 {
			p, _ := merkle.Growth(mill.New(), l, a)
			checkGrown(t, "growth proof", point(l[:a]), point(l), p, api.OK)
		}
	}
}

// Promise 7.3: the limit, at which a proof has all 17 elements.
func TestGrownMost(t *testing.T) {
	l := leaves(merkle.Most)
	for a, want := range map[int]int{0: 0, 1: 16, 2: 15, 3: 17, 30000: 13, 32768: 1, 65534: 16, 65535: 17, 65536: 0} {
		p := growthOf(l, a)
		if len(p) != want {
			t.Errorf("a proof from %d has %d elements, want %d", a, len(p), want)
		}
		checkGrown(t, "most", point(l[:a]), point(l), p, api.OK)
	}
}

// Promise 7.3: the errors, and which of them comes first.
func TestGrownErrors(t *testing.T) {
	l := leaves(20)
	at := func(size int, root string) api.Point { return api.Point{Size: size, Root: root} }
	bad := append(slices.Clone(l[:2]), "short")
	for _, r := range []struct {
		what     string
		from, to api.Point
		p        []string
		want     api.Errno
	}{
		{"negative, all wrong", at(-1, ""), at(5, ""), bad, api.ErrSize},
		{"negative", at(-1, none), at(5, l[0]), nil, api.ErrSize},
		{"both negative", at(-2, none), at(-1, none), nil, api.ErrSize},
		{"least", at(math.MinInt, none), at(5, l[0]), nil, api.ErrSize},
		{"to negative", at(0, none), at(-1, none), nil, api.ErrSize},
		{"shrunk, all wrong", at(6, ""), at(5, ""), bad, api.ErrSize},
		{"shrunk", at(1, l[0]), at(0, none), nil, api.ErrSize},
		{"too great, all wrong", at(1, ""), at(65537, ""), bad, api.ErrSize},
		{"too great from none", at(0, none), at(65537, l[0]), nil, api.ErrSize},
		{"too great and equal", at(65537, l[0]), at(65537, l[0]), nil, api.ErrSize},
		{"greatest", at(math.MaxInt, l[0]), at(math.MaxInt, l[0]), nil, api.ErrSize},

		{"empty root from", at(1, ""), at(2, l[1]), bad, api.ErrRoot},
		{"short root from", at(1, l[0][:31]), at(2, l[1]), bad, api.ErrRoot},
		{"long root from", at(1, l[0]+"x"), at(2, l[1]), bad, api.ErrRoot},
		{"empty root to", at(1, l[0]), at(2, ""), bad, api.ErrRoot},
		{"short root to", at(1, l[0]), at(2, l[1][:31]), bad, api.ErrRoot},
		{"long root to", at(1, l[0]), at(2, l[1]+"x"), bad, api.ErrRoot},
		{"short roots that are equal", at(1, "x"), at(1, "x"), nil, api.ErrRoot},
		{"short root to from none", at(0, none), at(2, "x"), nil, api.ErrRoot},
		{"short roots and 18 elements", at(1, "x"), at(2, "x"), l[:18], api.ErrRoot},

		{"18 elements", at(3, l[0]), at(65536, l[1]), l[:18], api.ErrProof},
		{"18 elements from none", at(0, l[0]), at(5, l[1]), l[:18], api.ErrProof},
		{"17 elements from none", at(0, l[0]), at(5, l[1]), l[:17], api.ErrRoot},
		{"short element", at(3, l[0]), at(7, l[1]), bad, api.ErrProof},
		{"short element from none", at(0, l[0]), at(7, l[1]), bad, api.ErrProof},
		{"short element, equal sizes", at(7, l[0]), at(7, l[1]), bad, api.ErrProof},
		{"empty element", at(1, l[0]), at(2, l[1]), []string{""}, api.ErrProof},
		{"long element", at(1, l[0]), at(2, l[1]), []string{l[2] + "x"}, api.ErrProof},

		{"none", at(0, none), at(0, none), nil, api.OK},
		{"none, no elements", at(0, none), at(0, none), []string{}, api.OK},
		{"none to any root", at(0, none), at(65536, l[0]), nil, api.OK},
		{"none to the root of none", at(0, none), at(3, none), nil, api.OK},
		{"wrong root of none", at(0, l[0]), at(5, l[1]), nil, api.ErrRoot},
		{"wrong root of none and an element", at(0, l[0]), at(5, l[1]), l[:1], api.ErrRoot},
		{"wrong roots of none, equal", at(0, l[0]), at(0, l[0]), nil, api.ErrRoot},
		{"none to wrong none", at(0, none), at(0, l[0]), nil, api.ErrRoot},
		{"none to wrong none and an element", at(0, none), at(0, l[0]), l[:1], api.ErrRoot},
		{"an element from none to none", at(0, none), at(0, none), l[:1], api.ErrProof},
		{"an element from none", at(0, none), at(5, l[1]), l[:1], api.ErrProof},

		{"equal", at(5, l[0]), at(5, l[0]), nil, api.OK},
		{"equal at the limit", at(65536, l[0]), at(65536, l[0]), nil, api.OK},
		{"equal sizes", at(5, l[0]), at(5, l[1]), nil, api.ErrRoot},
		{"equal and an element", at(5, l[0]), at(5, l[0]), l[:1], api.ErrProof},
		{"equal sizes and an element", at(5, l[0]), at(5, l[1]), l[:1], api.ErrProof},
		{"no elements", at(1, l[0]), at(2, l[1]), nil, api.ErrProof},
		{"one element too many", at(1, l[0]), at(2, node(l[0], l[1])), l[1:3], api.ErrProof},
		{"one leaf more", at(1, l[0]), at(2, node(l[0], l[1])), l[1:2], api.OK},
		{"one leaf more, other way round", at(1, l[0]), at(2, node(l[1], l[0])), l[1:2], api.ErrRoot},
	} {
		checkGrown(t, r.what, r.from, r.to, r.p, r.want)
	}
}

// Promise 7.3: proofs of every length, for sizes near the powers of two; what is given need not be of a tree.
func TestGrownLengths(t *testing.T) {
	l := leaves(20)
	sizes := []int{65536, 65535, 32769}
	for n := 1; n < 34; n++ {
		sizes = append(sizes, n)
	}
	for _, n := range sizes {
		tree := leaves(n)
		for _, a := range []int{1, 2, 3, 4, 5, 7, 8, n / 3, n / 2, n/2 + 1, n - 2, n - 1, n} {
			if a < 1 || a > n {
				continue
			}
			want := len(growthOf(tree, a))
			from, to := api.Point{Size: a, Root: l[18]}, api.Point{Size: n, Root: l[19]}
			for k := range 18 {
				e := api.ErrProof
				if k == want {
					e = api.ErrRoot
				}
				checkGrown(t, "length", from, to, l[:k], e)
			}
		}
	}
}

// Promises 7.3 and 7.5: what the proof or the checkpoints have in another way is not accepted.
func TestGrownForged(t *testing.T) {
	m := mill.New()
	for n := 1; n < 18; n++ {
		l := leaves(n)
		to := point(l)
		for a := 1; a <= n; a++ {
			from, p := point(l[:a]), growthOf(l, a)
			checkGrown(t, "other root from", api.Point{Size: a, Root: sum(from.Root)}, to, p, api.ErrRoot)
			checkGrown(t, "other root to", from, api.Point{Size: n, Root: sum(to.Root)}, p, api.ErrRoot)
			checkGrown(t, "one element more", from, to, append(slices.Clone(p), to.Root), api.ErrProof)
			for k := range p {
				bad := slices.Clone(p)
				bad[k] = sum(bad[k])
				checkGrown(t, "other element", from, to, bad, api.ErrRoot)
				checkGrown(t, "fewer elements", from, to, p[:k], api.ErrProof)
				checkGrown(t, "without the first", from, to, p[k+1:], api.ErrProof)
			}
			for b := 1; b <= n; b++ {
				other := api.Point{Size: b, Root: from.Root}
				if e := merkle.Grown(m, other, to, p); e == api.OK != verify(other, to, p) {
					t.Errorf("Grown from %d as if %d to %d = %v", a, b, n, e)
				}
			}
			for b := a; b < 18; b++ {
				other := api.Point{Size: b, Root: to.Root}
				if e := merkle.Grown(m, from, other, p); e == api.OK != verify(from, other, p) {
					t.Errorf("Grown from %d to %d as if %d = %v", a, n, b, e)
				}
			}
		}
	}
}

// Promise 7.5: no growth proof is accepted if a leaf of the older tree is another one.
func TestGrownFromAnother(t *testing.T) {
	m := mill.New()
	for n := 1; n < 14; n++ {
		l := leaves(n)
		for a := 1; a <= n; a++ {
			for i := range a {
				older := slices.Clone(l[:a])
				older[i] = sum(older[i])
				mixed := append(slices.Clone(older), l[a:]...)
				for _, p := range [][]string{growthOf(l, a), growthOf(mixed, a)} {
					if e := merkle.Grown(m, point(older), point(l), p); e != api.ErrRoot {
						t.Errorf("Grown from %d with another leaf %d to %d = %v", a, i, n, e)
					}
				}
			}
		}
	}
	if _, _, met := m.Twins(); met {
		t.Error("a collision was met")
	}
}

// Promise 7.5: a growth proof from leaves that are no prefix makes a collision.
func TestGrownCollision(t *testing.T) {
	l := leaves(6)
	other := sum("other")
	m := with(t, mill.Entry{Text: "\x01" + l[0] + other, Out: node(l[0], l[1])})
	newer := api.Point{Size: 6, Root: merkle.Root(m, l)}
	older := api.Point{Size: 3, Root: merkle.Root(m, []string{l[0], other, l[2]})}
	p, _ := merkle.Growth(m, l, 3)
	if e := merkle.Grown(m, older, newer, p); e != api.OK {
		t.Fatalf("Grown = %v", e)
	}
	if a, b, met := m.Twins(); !met || a != "\x01"+l[0]+l[1] || b != "\x01"+l[0]+other {
		t.Errorf("Twins = %x, %x, %v", a, b, met)
	}
}

// Promise 7.3: the root of no leaves is that of the mill.
func TestGrownWithTable(t *testing.T) {
	l := leaves(3)
	m := with(t, mill.Entry{Text: "", Out: l[0]}, mill.Entry{Text: "\x01" + l[1] + l[2], Out: l[0]})
	for _, r := range []struct {
		from, to api.Point
		p        []string
		want     api.Errno
	}{
		{api.Point{Root: l[0]}, api.Point{Size: 1, Root: l[1]}, nil, api.OK},
		{api.Point{Root: none}, api.Point{Size: 1, Root: l[1]}, nil, api.ErrRoot},
		{api.Point{Root: l[0]}, api.Point{Root: none}, nil, api.ErrRoot},
		{api.Point{Size: 1, Root: l[1]}, api.Point{Size: 2, Root: l[0]}, l[2:], api.OK},
		{api.Point{Size: 1, Root: l[1]}, api.Point{Size: 2, Root: node(l[1], l[2])}, l[2:], api.ErrRoot},
	} {
		if e := merkle.Grown(m, r.from, r.to, r.p); e != r.want {
			t.Errorf("Grown from %x to %x = %v, want %v", r.from, r.to, e, r.want)
		}
	}
}

// Rule R1: with a nil mill all hashes are empty, so that no tree of hashes has them as its root.
func TestGrownWithoutMill(t *testing.T) {
	l := leaves(7)
	for name, m := range idle() {
		for a := range 8 {
			p, e := merkle.Growth(m, l, a)
			if e != api.OK || !slices.Equal(p, unhashed(l, growthOf(l, a))) {
				t.Errorf("%s: Growth from %d = %x, %v", name, a, p, e)
			}
			want := api.ErrRoot
			if a == 7 {
				want = api.OK // nothing is hashed
			}
			if e := merkle.Grown(m, point(l[:a]), point(l), growthOf(l, a)); e != want {
				t.Errorf("%s: Grown from %d = %v, want %v", name, a, e, want)
			}
		}
		if e := merkle.Grown(m, api.Point{}, api.Point{}, nil); e != api.ErrRoot {
			t.Errorf("%s: Grown from the empty root = %v", name, e)
		}
		if p, e := merkle.Growth(m, l, 8); len(p) != 0 || e != api.ErrSize {
			t.Errorf("%s: Growth from 8 = %x, %v", name, p, e)
		}
	}
}
