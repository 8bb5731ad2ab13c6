package sheet_test

import (
	"math"
	"slices"
	"strings"
	"testing"

	"chartulary/api"
	"chartulary/mill"
	"chartulary/sheet"
)

// picks are all choices of at least one of n indices.
func picks(n int) [][]int {
	var all [][]int
	for set := 1; set < 1<<n; set++ {
		var l []int
		for i := range n {
			if set>>i&1 == 1 {
				l = append(l, i)
			}
		}
		all = append(all, l)
	}
	return all
}

// picked are the leaves with the picked indices.
func picked(l []string, pick []int) []string {
	var r []string
	for _, i := range pick {
		r = append(r, l[i])
	}
	return r
}

// holds tells whether one of the picked indices is from a to less than b.
func holds(pick []int, a, b int) bool {
	return slices.ContainsFunc(pick, func(i int) bool { return a <= i && i < b })
}

// nodesOf are the sibling roots, found from below: each leaf that isn't picked is in a greatest block of a power of two, cut at the tree's end, in which none is.
func nodesOf(l []string, pick []int) []string {
	var r []string
	for i := 0; i < len(l); {
		end := i
		for width := 1; width < 2*len(l) && i%width == 0 && !holds(pick, i, i+width); width *= 2 {
			end = min(i+width, len(l))
		}
		if end == i {
			i++
			continue
		}
		r = append(r, rootOf(l[i:end]))
		i = end
	}
	return r
}

// Promise 8.2, example 2.
func TestRising(t *testing.T) {
	for _, c := range []struct {
		l    []int
		n    int
		want bool
	}{
		{[]int{0, 3}, 3, false}, {[]int{0, 3}, 4, true}, {[]int{0, 2}, 3, true}, {[]int{2, 0}, 3, false}, {[]int{0, 1, 2}, 3, true},
		{nil, 3, true}, {[]int{}, 0, true}, {nil, -1, true}, {nil, math.MinInt, true},
		{[]int{0}, 0, false}, {[]int{0}, 1, true}, {[]int{0}, -1, false}, {[]int{1}, 1, false}, {[]int{1}, 2, true},
		{[]int{-1}, 3, false}, {[]int{-1}, -1, false}, {[]int{-2}, -1, false}, {[]int{-1, 0}, 3, false}, {[]int{0, -1}, 3, false},
		{[]int{1, 1}, 3, false}, {[]int{0, 0}, 3, false}, {[]int{0, 1, 1}, 3, false}, {[]int{0, 2, 1}, 3, false}, {[]int{1, 0, 2}, 3, false},
		{[]int{3, 0}, 3, false}, {[]int{0, 1, 2, 3}, 3, false}, {[]int{5, 1000000}, 1000001, true}, {[]int{5, 1000000}, 1000000, false},
		{[]int{math.MinInt}, 3, false}, {[]int{0, math.MinInt}, 3, false}, {[]int{math.MaxInt}, math.MaxInt, false},
		{[]int{0, math.MaxInt - 1}, math.MaxInt, true}, {[]int{math.MaxInt - 1, math.MaxInt - 1}, math.MaxInt, false},
		{[]int{math.MaxInt}, 3, false}, {[]int{0}, math.MinInt, false},
	} {
		list, all := spare(c.l)
		if got := sheet.Rising(list, c.n); got != c.want {
			t.Errorf("Rising(%v, %d) = %v", c.l, c.n, got)
		}
		checkSpare(t, "Rising", all, c.l)
	}
}

// Promise 8.2: all choices.
func TestNodes(t *testing.T) {
	m := mill.New()
	for n := 1; n <= api.MaxFields; n++ {
		l := slips(n)
		leaves := leavesOf(l)
		for _, pick := range picks(n) {
			if got, e := sheet.Nodes(m, l, pick); e != api.OK || !slices.Equal(got, nodesOf(leaves, pick)) {
				t.Errorf("Nodes of %v of %d = %x, %v, want %x", pick, n, got, e, nodesOf(leaves, pick))
			}
		}
	}
}

// Promise 8.2: trees in which the sibling roots are told one by one.
func TestNodesOfTrees(t *testing.T) {
	m, l := mill.New(), slips(7)
	a := leavesOf(l)
	first, second, third := node(a[0], a[1]), node(a[2], a[3]), node(a[4], a[5])
	for _, c := range []struct {
		n          int
		pick       []int
		want, name string
	}{
		{7, []int{0}, a[1] + second + node(third, a[6]), "b h l"},
		{7, []int{3}, first + a[2] + node(third, a[6]), "g c l"},
		{7, []int{6}, node(first, second) + third, "k i"},
		{7, []int{1, 4}, a[0] + second + a[5] + a[6], "a h f j"},
		{7, []int{0, 6}, a[1] + second + third, "b h i"},
		{7, []int{0, 1, 2, 3}, node(third, a[6]), "l"},
		{7, []int{4, 5, 6}, node(first, second), "k"},
		{7, []int{0, 1, 2, 3, 4, 5, 6}, "", "none"},
		{3, []int{0, 2}, a[1], "b"},
		{3, []int{2}, first, "g"},
		{2, []int{0}, a[1], "b"},
		{2, []int{1}, a[0], "a"},
		{1, []int{0}, "", "none"},
	} {
		if got, e := sheet.Nodes(m, l[:c.n], c.pick); e != api.OK || strings.Join(got, "") != c.want {
			t.Errorf("Nodes of %v of %d = %x, %v, want %s", c.pick, c.n, got, e, c.name)
		}
	}
}

// Promise 8.2: there is no greatest number of slips.
func TestNodesOfMany(t *testing.T) {
	m := mill.New()
	for _, n := range []int{13, 16, 17, 31, 33, 100, 1000} {
		l := slips(n)
		leaves := leavesOf(l)
		for _, pick := range [][]int{{0}, {n - 1}, {0, n - 1}, {5, 6, 12}, {1, 2, 3, n/2 - 1, n / 2, n - 2}} {
			if got, e := sheet.Nodes(m, l, pick); e != api.OK || !slices.Equal(got, nodesOf(leaves, pick)) {
				t.Errorf("Nodes of %v of %d = %x, %v", pick, n, got, e)
			}
		}
	}
}

// Promise 8.2, example 2.
func TestNodesOfWrongPicks(t *testing.T) {
	mills := idle()
	mills["new"] = mill.New()
	for name, m := range mills {
		for _, c := range []struct {
			n    int
			pick []int
		}{
			{3, []int{2, 0}}, {3, nil}, {3, []int{}}, {0, nil}, {0, []int{0}}, {0, []int{-1}}, {3, []int{3}}, {3, []int{-1}}, {3, []int{0, 3}},
			{3, []int{-1, 0}}, {3, []int{1, 1}}, {3, []int{0, 1, 2, 3}}, {3, []int{0, 2, 1}}, {3, []int{math.MinInt}}, {3, []int{math.MaxInt}},
			{1, []int{0, 0}}, {1, []int{1}}, {100, []int{100}}, {12, []int{12}},
		} {
			if got, e := sheet.Nodes(m, slips(c.n), c.pick); len(got) != 0 || e != api.ErrArg {
				t.Errorf("%s: Nodes of %v of %d = %x, %v, want ErrArg", name, c.pick, c.n, got, e)
			}
		}
	}
}

// Rule R3: the arguments stay as they are, and the nodes are the caller's.
func TestNodesAreNew(t *testing.T) {
	m, want := mill.New(), slips(7)
	l, allSlips := spare(want)
	for _, p := range picks(7) {
		pick, all := spare(p)
		got, _ := sheet.Nodes(m, l, pick)
		checkSpare(t, "Nodes", all, p)
		checkSpare(t, "Nodes", allSlips, want)
		got = got[:cap(got)]
		for i := range got {
			got[i] = "changed"
		}
		if again, _ := sheet.Nodes(m, l, pick); !slices.Equal(again, nodesOf(leavesOf(want), p)) {
			t.Errorf("a change of the nodes of %v changed later ones", p)
		}
	}
}

// Promises 8.3 and 8.4, example 1: all choices.
func TestRebuild(t *testing.T) {
	m := mill.New()
	for n := 1; n <= api.MaxFields; n++ {
		l := slips(n)
		leaves := leavesOf(l)
		root := sheet.Root(m, l)
		for _, p := range picks(n) {
			nodes, _ := sheet.Nodes(m, l, p)
			pick, allPick := spare(p)
			leaf, allLeaf := spare(picked(leaves, p))
			node, allNode := spare(nodes)
			if got, e := sheet.Rebuild(m, n, pick, leaf, node); got != root || e != api.OK {
				t.Errorf("Rebuild of %v of %d = %x, %v, want %x", p, n, got, e, root)
			}
			checkSpare(t, "Rebuild", allPick, p)
			checkSpare(t, "Rebuild", allLeaf, picked(leaves, p))
			checkSpare(t, "Rebuild", allNode, nodes)
		}
	}
	if _, _, met := m.Twins(); met {
		t.Error("a collision was met")
	}
}

// Promise 8.3: what is given need not be of a sheet.
func TestRebuildAnywhere(t *testing.T) {
	m := mill.New()
	x, y, z := strings.Repeat("x", 32), strings.Repeat("y", 32), strings.Repeat("z", 32)
	for _, c := range []struct {
		n           int
		pick        []int
		leaf, nodes []string
		want        string
	}{
		{1, []int{0}, []string{x}, nil, x},
		{1, []int{0}, []string{"no hash"}, []string{}, "no hash"},
		{1, []int{0}, []string{""}, nil, ""},
		{2, []int{0}, []string{x}, []string{y}, node(x, y)},
		{2, []int{1}, []string{x}, []string{y}, node(y, x)},
		{2, []int{0, 1}, []string{x, y}, nil, node(x, y)},
		{2, []int{0, 1}, []string{y, x}, nil, node(y, x)},
		{2, []int{0, 1}, []string{"a", ""}, nil, node("a", "")},
		{3, []int{0, 2}, []string{x, y}, []string{z}, node(node(x, z), y)},
		{3, []int{1}, []string{x}, []string{y, z}, node(node(y, x), z)},
		{3, []int{2}, []string{x}, []string{x}, node(x, x)},
		{5, []int{1, 4}, []string{x, y}, []string{z, y}, node(node(node(z, x), y), y)},
		{12, []int{8}, []string{x}, []string{y, z, x}, node(y, node(node(x, z), x))},
		{12, []int{3, 10}, []string{x, y}, []string{x, y, z, x, z}, node(node(node(x, node(y, x)), z), node(x, node(y, z)))},
	} {
		if got, e := sheet.Rebuild(m, c.n, c.pick, c.leaf, c.nodes); got != c.want || e != api.OK {
			t.Errorf("Rebuild of %v of %d = %x, %v, want %x", c.pick, c.n, got, e, c.want)
		}
	}
}

// checkRebuildFails checks that Rebuild answers an error, and that it does so with every mill.
func checkRebuildFails(t *testing.T, n int, pick []int, leaf, nodes []string, want api.Errno) {
	t.Helper()
	mills := idle()
	mills["new"] = mill.New()
	for name, m := range mills {
		if got, e := sheet.Rebuild(m, n, pick, leaf, nodes); got != "" || e != want {
			t.Errorf("%s mill: Rebuild of %v of %d by %d leaves and %d nodes = %x, %v, want %v", name, pick, n, len(leaf), len(nodes), got, e, want)
		}
	}
}

// Promise 8.3: the size comes before the proof.
func TestRebuildWrongSize(t *testing.T) {
	a := leavesOf(slips(13))
	for _, nodes := range [][]string{nil, a[:1], a[:2], a[:4], a, {"short"}} {
		for _, n := range []int{0, -1, math.MinInt, 13, 14, 100, math.MaxInt} {
			checkRebuildFails(t, n, []int{0}, a[:1], nodes, api.ErrSize)
			checkRebuildFails(t, n, nil, nil, nodes, api.ErrSize)
		}
		checkRebuildFails(t, 13, []int{0, 1, 2, 3, 4, 5, 6, 7, 8, 9, 10, 11, 12}, a, nodes, api.ErrSize)
		for n := 1; n <= api.MaxFields; n++ {
			checkRebuildFails(t, n, nil, nil, nodes, api.ErrSize)
			checkRebuildFails(t, n, []int{}, a[:1], nodes, api.ErrSize)
			checkRebuildFails(t, n, []int{0}, nil, nodes, api.ErrSize)
			checkRebuildFails(t, n, []int{0}, a[:2], nodes, api.ErrSize)
			for _, pick := range [][]int{{n}, {-1}, {n + 1}, {math.MaxInt}, {math.MinInt}} {
				checkRebuildFails(t, n, pick, a[:1], nodes, api.ErrSize)
			}
			for _, pick := range [][]int{{0, 0}, {0, n}, {-1, 0}, {1, 0}, {n - 1, n - 1}, {n - 1, n}} {
				checkRebuildFails(t, n, pick, a[:2], nodes, api.ErrSize)
			}
		}
		checkRebuildFails(t, 3, []int{0, 2}, a[:1], nodes, api.ErrSize)
		checkRebuildFails(t, 3, []int{0, 2}, a[:3], nodes, api.ErrSize)
		checkRebuildFails(t, 3, []int{0, 2, 1}, a[:3], nodes, api.ErrSize)
		checkRebuildFails(t, 3, []int{0, 1, 2, 3}, a[:4], nodes, api.ErrSize)
	}
	// A tree of 13 leaves has its nodes, and is refused all the same.
	nodes, e := sheet.Nodes(mill.New(), slips(13), []int{4})
	if len(nodes) != 4 || e != api.OK {
		t.Fatalf("Nodes of 13 slips = %x, %v", nodes, e)
	}
	checkRebuildFails(t, 13, []int{4}, a[4:5], nodes, api.ErrSize)
}

// Promise 8.3, example 1: one node too few or too many, for all choices.
func TestRebuildWrongCount(t *testing.T) {
	for n := 1; n <= api.MaxFields; n++ {
		leaves := leavesOf(slips(n))
		for _, pick := range picks(n) {
			leaf, nodes := picked(leaves, pick), nodesOf(leaves, pick)
			for k := range nodes {
				checkRebuildFails(t, n, pick, leaf, nodes[:k], api.ErrProof)
			}
			checkRebuildFails(t, n, pick, leaf, append(slices.Clone(nodes), leaves[0]), api.ErrProof)
			checkRebuildFails(t, n, pick, leaf, append(slices.Clone(nodes), ""), api.ErrProof)
		}
	}
	a := leavesOf(slips(13))
	checkRebuildFails(t, 3, []int{0, 2}, []string{a[0], a[2]}, nil, api.ErrProof)
	checkRebuildFails(t, 12, []int{0}, a[:1], make([]string, 100000), api.ErrProof)
}

// Promise 8.3: each node has to be as long as a hash.
func TestRebuildWrongNode(t *testing.T) {
	for n := 2; n <= 7; n++ {
		leaves := leavesOf(slips(n))
		for _, pick := range picks(n) {
			leaf, nodes := picked(leaves, pick), nodesOf(leaves, pick)
			for k, s := range nodes {
				for _, bad := range []string{"", s[:31], s + "\x00", s + s} {
					wrong := slices.Clone(nodes)
					wrong[k] = bad
					checkRebuildFails(t, n, pick, leaf, wrong, api.ErrProof)
				}
			}
		}
	}
}

// Rule R1: with a nil mill all hashes are empty.
func TestShowWithoutMill(t *testing.T) {
	for name, m := range idle() {
		for n := 1; n < 8; n++ {
			leaves := leavesOf(slips(n))
			for _, pick := range picks(n) {
				nodes := nodesOf(leaves, pick)
				if got, e := sheet.Nodes(m, slips(n), pick); e != api.OK || !slices.Equal(got, make([]string, len(nodes))) {
					t.Errorf("%s: Nodes of %v of %d = %x, %v", name, pick, n, got, e)
				}
				got, e := sheet.Rebuild(m, n, pick, picked(leaves, pick), nodes)
				if e != api.OK || n > 1 && got != "" || n == 1 && got != leaves[0] {
					t.Errorf("%s: Rebuild of %v of %d = %x, %v", name, pick, n, got, e)
				}
			}
		}
	}
}

// Promise 8.4: with another leaf, another node, or at another place, the root is another one.
func TestRebuildFromAnother(t *testing.T) {
	m, other := mill.New(), sum("other")
	for n := 1; n <= 8; n++ {
		leaves := leavesOf(slips(n))
		root := rootOf(leaves)
		all := picks(n)
		for _, pick := range all {
			leaf, nodes := picked(leaves, pick), nodesOf(leaves, pick)
			for k := range leaf {
				bad := slices.Clone(leaf)
				bad[k] = other
				if got, e := sheet.Rebuild(m, n, pick, bad, nodes); e != api.OK || got == root {
					t.Errorf("Rebuild of %v of %d with another leaf %d = %x, %v", pick, n, k, got, e)
				}
			}
			for k := range nodes {
				bad := slices.Clone(nodes)
				bad[k] = other
				if got, e := sheet.Rebuild(m, n, pick, leaf, bad); e != api.OK || got == root {
					t.Errorf("Rebuild of %v of %d with another node %d = %x, %v", pick, n, k, got, e)
				}
			}
			for _, place := range all {
				if slices.Equal(place, pick) {
					continue
				}
				if got, e := sheet.Rebuild(m, n, place, leaf, nodes); e == api.OK && got == root {
					t.Errorf("Rebuild of %v of %d as if at %v is the root", pick, n, place)
				}
			}
		}
	}
	if _, _, met := m.Twins(); met {
		t.Error("a collision was met")
	}
}

// Promise 8.4: two leaves that lead to one root make a collision.
func TestRebuildCollision(t *testing.T) {
	a, other := leavesOf(slips(3)), sum("other")
	m := with(t, mill.Entry{Text: "\x01" + other + a[1], Out: node(a[0], a[1])})
	root, _ := sheet.Rebuild(m, 3, []int{0, 2}, []string{a[0], a[2]}, a[1:2])
	if _, _, met := m.Twins(); met || root != rootOf(a) {
		t.Fatalf("Rebuild from the leaf = %x", root)
	}
	if again, _ := sheet.Rebuild(m, 3, []int{0, 2}, []string{other, a[2]}, a[1:2]); again != root {
		t.Fatalf("Rebuild from the other leaf = %x", again)
	}
	if x, y, met := m.Twins(); !met || x != "\x01"+a[0]+a[1] || y != "\x01"+other+a[1] {
		t.Errorf("Twins = %x, %x, %v", x, y, met)
	}
}

// Promise 8.4: two pledges that lead to one leaf make a collision.
func TestLeafCollision(t *testing.T) {
	l := slips(3)
	other := slices.Clone(l)
	other[1].Pledge = sum("other")
	m := with(t, mill.Entry{Text: "\x00" + short(other[1].Name) + short(other[1].Pledge), Out: leafOf(l[1])})
	if sheet.Root(m, l) != sheet.Root(m, other) {
		t.Fatal("the roots differ")
	}
	x, y, met := m.Twins()
	if !met || x != "\x00"+short(l[1].Name)+short(l[1].Pledge) || y != "\x00"+short(l[1].Name)+short(other[1].Pledge) {
		t.Errorf("Twins = %x, %x, %v", x, y, met)
	}
}
