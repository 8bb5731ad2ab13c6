package merkle_test

import (
	"math"
	"slices"
	"strings"
	"testing"

	"chartulary/api"
	"chartulary/merkle"
	"chartulary/mill"
)

// pathOf is the path of leaf i, computed level by level.
func pathOf(l []string, i int) []string {
	var p []string
	for ; len(l) > 1; l, i = up(l), i/2 {
		if i^1 < len(l) {
			p = append(p, l[i^1])
		}
	}
	return p
}

// climb is where leaf i of n leaves and a path lead to, as RFC 9162 verifies it; false: the path has another length.
func climb(leaf string, i, n int, p []string) (string, bool) {
	r, last := leaf, n-1
	for _, s := range p {
		if last == 0 {
			return "", false
		}
		if i%2 == 1 || i == last {
			r = node(s, r)
			for i%2 == 0 && i != 0 {
				i, last = i/2, last/2
			}
		} else {
			r = node(r, s)
		}
		i, last = i/2, last/2
	}
	return r, last == 0
}

// seven is the tree of RFC 6962, section 2.1.3: the nodes by their letters.
func seven() ([]string, map[byte]string) {
	l := leaves(7)
	by := map[byte]string{'a': l[0], 'b': l[1], 'c': l[2], 'd': l[3], 'e': l[4], 'f': l[5], 'j': l[6]}
	by['g'], by['h'], by['i'] = node(l[0], l[1]), node(l[2], l[3]), node(l[4], l[5])
	by['k'], by['l'] = node(by['g'], by['h']), node(by['i'], by['j'])
	return l, by
}

// spell are the nodes with the letters s.
func spell(by map[byte]string, s string) []string {
	var l []string
	for i := range len(s) {
		l = append(l, by[s[i]])
	}
	return l
}

// checkPath checks what Path answers.
func checkPath(t *testing.T, what string, l []string, i int, want []string) {
	t.Helper()
	list, room := spare(l)
	if got, e := merkle.Path(mill.New(), list, i); e != api.OK || !slices.Equal(got, want) {
		t.Errorf("%s: Path of leaf %d of %d = %x, %v, want %x", what, i, len(l), got, e, want)
	}
	checkSpare(t, "Path", list, l, room)
}

// Promise 7.1, the example of RFC 6962 and the first of the chapter.
func TestPathOfRFC6962(t *testing.T) {
	l, by := seven()
	for i, s := range []string{"bhl", "ahl", "dgl", "cgl", "fjk", "ejk", "ik"} {
		checkPath(t, "RFC 6962", l, i, spell(by, s))
	}
	checkPath(t, "example", l[:3], 2, spell(by, "g"))
}

// Promise 7.1.
func TestPath(t *testing.T) {
	for n := range 70 {
		l := leaves(n)
		for i := range n {
			checkPath(t, "all leaves", l, i, pathOf(l, i))
		}
	}
	texts := []string{"", "x", strings.Repeat("y", 40)}
	checkPath(t, "any strings", texts, 0, []string{"x", texts[2]})
	checkPath(t, "any strings", texts, 2, []string{node("", "x")})
	many := leaves(merkle.Most + 1)
	for _, i := range []int{0, 40000, merkle.Most - 1, merkle.Most} {
		checkPath(t, "more than Most", many, i, pathOf(many, i))
	}
}

// Promise 7.1, example 2.
func TestPathOfNoLeaf(t *testing.T) {
	for n := range 9 {
		for _, i := range []int{-1, n, n + 1, math.MaxInt, math.MinInt} {
			if p, e := merkle.Path(mill.New(), leaves(n), i); len(p) != 0 || e != api.ErrNone {
				t.Errorf("Path of leaf %d of %d = %x, %v, want ErrNone", i, n, p, e)
			}
		}
	}
}

// Rule R3: a path is the caller's.
func TestPathIsNew(t *testing.T) {
	l, m := leaves(7), mill.New()
	for i := range l {
		p, _ := merkle.Path(m, l, i)
		p = p[:cap(p)]
		for j := range p {
			p[j] = "changed"
		}
		if !slices.Equal(l, leaves(7)) {
			t.Fatalf("a change of the path of leaf %d changed the leaves", i)
		}
		checkPath(t, "after a change", l, i, pathOf(l, i))
	}
}

// Promise 7.2, example 2.
func TestClimb(t *testing.T) {
	m := mill.New()
	for n := 1; n < 70; n++ {
		l := leaves(n)
		for i := range n {
			p, _ := merkle.Path(m, l, i)
			list, room := spare(p)
			if r, e := merkle.Climb(m, l[i], i, n, list); r != rootOf(l) || e != api.OK {
				t.Errorf("Climb from leaf %d of %d = %x, %v, want %x", i, n, r, e, rootOf(l))
			}
			checkSpare(t, "Climb", list, p, room)
		}
	}
}

// Promise 7.2: what is given need not be of a tree.
func TestClimbAnywhere(t *testing.T) {
	m, l := mill.New(), leaves(20)
	sizes := []int{65535, 65536, 65534, 65533, 60000, 49153, 32769, 32768, 32767}
	for n := 1; n < 40; n++ {
		sizes = append(sizes, n)
	}
	for _, n := range sizes {
		for _, i := range []int{0, 1, 2, n / 3, n / 2, n - 3, n - 2, n - 1} {
			if i < 0 || i >= n {
				continue
			}
			for k := range len(l) {
				want, ok := climb(l[0], i, n, l[1:1+k])
				got, e := merkle.Climb(m, l[0], i, n, l[1:1+k])
				if ok && (got != want || e != api.OK) || !ok && (got != "" || e != api.ErrProof) {
					t.Errorf("Climb from leaf %d of %d by %d elements = %x, %v, want %x, %v", i, n, k, got, e, want, ok)
				}
			}
		}
	}
}

// Promise 7.2: the limit, at which all elements are needed.
func TestClimbMost(t *testing.T) {
	if merkle.Most != 65536 {
		t.Errorf("Most = %d", merkle.Most)
	}
	m, l := mill.New(), leaves(merkle.Most)
	root := rootOf(l)
	for _, i := range []int{0, 12345, merkle.Most - 1} {
		p := pathOf(l, i)
		if r, e := merkle.Climb(m, l[i], i, merkle.Most, p); r != root || e != api.OK || len(p) != 16 {
			t.Errorf("Climb from leaf %d of 65536 = %x, %v", i, r, e)
		}
	}
}

// checkClimbFails checks that Climb answers an error, and that it does so with every mill.
func checkClimbFails(t *testing.T, leaf string, i, n int, p []string, want api.Errno) {
	t.Helper()
	mills := idle()
	mills["new"] = mill.New()
	for name, m := range mills {
		if r, e := merkle.Climb(m, leaf, i, n, p); r != "" || e != want {
			t.Errorf("%s mill: Climb from leaf %d of %d by %d elements = %x, %v, want %v", name, i, n, len(p), r, e, want)
		}
	}
}

// Promise 7.2, example 2: the size comes before the proof.
func TestClimbWrongSize(t *testing.T) {
	l := leaves(20)
	for _, r := range [][2]int{
		{0, 0}, {0, -1}, {-1, -1}, {-1, 0}, {1, 0}, {-1, 1}, {1, 1}, {2, 1}, {7, 7}, {8, 7}, {-1, 7},
		{0, 65537}, {65536, 65537}, {65536, 65536}, {0, 1 << 17}, {0, math.MaxInt}, {math.MaxInt, math.MaxInt}, {0, math.MinInt},
		{math.MinInt, math.MinInt}, {math.MinInt, 7}, {math.MaxInt, 7}, {math.MinInt, 65536},
	} {
		for k := range len(l) {
			checkClimbFails(t, l[0], r[0], r[1], l[1:1+k], api.ErrSize)
		}
		checkClimbFails(t, "short", r[0], r[1], nil, api.ErrSize)
		checkClimbFails(t, l[0], r[0], r[1], []string{"short"}, api.ErrSize)
	}
}

// Promise 7.2, example 2.
func TestClimbWrongProof(t *testing.T) {
	m := mill.New()
	for n := 1; n < 18; n++ {
		l := leaves(n)
		for i := range n {
			p, _ := merkle.Path(m, l, i)
			checkClimbFails(t, l[i], i, n, append(slices.Clone(p), l[0]), api.ErrProof)
			checkClimbFails(t, l[i], i, n, append(slices.Clone(p), ""), api.ErrProof)
			for k := range p {
				checkClimbFails(t, l[i], i, n, p[:k], api.ErrProof)
				for _, s := range []string{"", p[k][:31], p[k] + "\x00", p[k] + p[k]} {
					bad := slices.Clone(p)
					bad[k] = s
					checkClimbFails(t, l[i], i, n, bad, api.ErrProof)
				}
			}
			for _, s := range []string{"", l[i][:31], l[i] + "\x00", l[i] + l[i]} {
				checkClimbFails(t, s, i, n, p, api.ErrProof)
			}
		}
	}
	checkClimbFails(t, leaves(1)[0], 0, 7, leaves(100000), api.ErrProof)
}

// unhashed is a proof whose elements are empty but for leaves.
func unhashed(l, p []string) []string {
	r := make([]string, len(p))
	for k, s := range p {
		if slices.Contains(l, s) {
			r[k] = s
		}
	}
	return r
}

// Rule R1: with a nil mill all hashes are empty.
func TestPathWithoutMill(t *testing.T) {
	for name, m := range idle() {
		for n := 1; n < 9; n++ {
			l := leaves(n)
			for i := range n {
				p, e := merkle.Path(m, l, i)
				if e != api.OK || !slices.Equal(p, unhashed(l, pathOf(l, i))) {
					t.Errorf("%s: Path of leaf %d of %d = %x, %v", name, i, n, p, e)
				}
				r, e := merkle.Climb(m, l[i], i, n, pathOf(l, i))
				if e != api.OK || n > 1 && r != "" || n == 1 && r != l[0] {
					t.Errorf("%s: Climb from leaf %d of %d = %x, %v", name, i, n, r, e)
				}
			}
			if p, e := merkle.Path(m, l, n); len(p) != 0 || e != api.ErrNone {
				t.Errorf("%s: Path of leaf %d of %d = %x, %v", name, n, n, p, e)
			}
		}
	}
}

// Promise 7.5: with another leaf, or another element, the root is another one.
func TestClimbFromAnother(t *testing.T) {
	m := mill.New()
	for n := 1; n < 18; n++ {
		l := leaves(n)
		root := rootOf(l)
		for i := range n {
			p := pathOf(l, i)
			for j := range n {
				if r, e := merkle.Climb(m, l[j], i, n, p); e != api.OK || r == root != (i == j) {
					t.Errorf("Climb from leaf %d as if %d of %d: %x, %v", j, i, n, r, e)
				}
				if r, e := merkle.Climb(m, l[i], j, n, p); e == api.OK && r == root != (i == j) {
					t.Errorf("Climb from leaf %d at %d of %d: %x", i, j, n, r)
				}
			}
			for k := range p {
				bad := slices.Clone(p)
				bad[k] = "\x00" + bad[k][1:]
				if r, e := merkle.Climb(m, l[i], i, n, bad); e != api.OK || r == root {
					t.Errorf("Climb from leaf %d of %d with another element %d: %x, %v", i, n, k, r, e)
				}
			}
		}
	}
	if _, _, met := m.Twins(); met {
		t.Error("a collision was met")
	}
}

// Promise 7.5: two leaves that are accepted at one place make a collision.
func TestClimbCollision(t *testing.T) {
	l := leaves(5)
	other := sum("other")
	m := with(t, mill.Entry{Text: "\x01" + l[2] + other, Out: node(l[2], l[3])})
	p := pathOf(l, 3)
	root, _ := merkle.Climb(m, l[3], 3, 5, p)
	if _, _, met := m.Twins(); met || root != rootOf(l) {
		t.Fatalf("Climb from the leaf = %x", root)
	}
	if again, _ := merkle.Climb(m, other, 3, 5, p); again != root {
		t.Fatalf("Climb from the other leaf = %x", again)
	}
	if a, b, met := m.Twins(); !met || a != "\x01"+l[2]+l[3] || b != "\x01"+l[2]+other {
		t.Errorf("Twins = %x, %x, %v", a, b, met)
	}
}
