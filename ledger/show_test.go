package ledger_test

import (
	"fmt"
	"math"
	"slices"
	"strings"
	"testing"

	"chartulary/api"
	"chartulary/ledger"
	"chartulary/merkle"
	"chartulary/mill"
	"chartulary/pledge"
	"chartulary/sheet"
	"chartulary/value"
)

// point issues a checkpoint.
func point(t *testing.T, l *ledger.Ledger) api.Point {
	t.Helper()
	p, err := l.Point()
	check(t, "Point", err, api.OK)
	return p
}

// leavesOf are the leaves of all papers.
func leavesOf(l *ledger.Ledger) []string {
	var leaves []string
	for _, e := range l.State().Entries() {
		leaves = append(leaves, sheet.Entry(mill.New(), e))
	}
	return leaves
}

// grown is a ledger with n papers of one to twelve fields, and its checkpoints after each paper, the first one of no paper.
func grown(t *testing.T, n int) (*ledger.Ledger, []api.Point) {
	t.Helper()
	_, l := fresh(t, api.MaxSectors)
	points := []api.Point{point(t, l)}
	for i := range n {
		names := strings.Fields("a b c d e f g h i j k l")[:1+i%12]
		add(t, l, paperOf(fmt.Sprint("p", i), i%8, names...))
		check(t, "Tick", l.Tick(i), api.OK)
		points = append(points, point(t, l))
	}
	return l, points
}

// Promise 18.4: a checkpoint has the number of papers, and the root of their leaves.
func TestPoint(t *testing.T) {
	d, l := fresh(t, 600)
	m := mill.New()
	same(t, "checkpoint", point(t, l), api.Point{Size: 0, Root: pledge.None(m)})
	add(t, l, paperOf("a", 3, "x"))
	check(t, "Tick", l.Tick(9), api.OK)
	slip := pledge.Slip(m, drawOf("a"), "a", "x", value.Bytes(text("x")))
	leaf := sheet.Paper(m, "a", 3, 0, 1, sheet.Leaf(m, "x", slip.Pledge))
	same(t, "checkpoint", point(t, l), api.Point{Size: 1, Root: leaf})
	add(t, l, paperOf("b", 1, "x", "y"), paperOf("c", 1, "x", "y", "z"))
	want := api.Point{Size: 3, Root: merkle.Root(m, leavesOf(l))}
	same(t, "checkpoint", point(t, l), want)
	same(t, "the same again", point(t, l), want)
	// Erasures change nothing about it.
	check(t, "Erase", l.Erase("c", "y"), api.OK)
	check(t, "Drop", l.Drop("b"), api.OK)
	check(t, "Sweep", l.Sweep(), api.OK)
	same(t, "after erasures", point(t, l), want)
	points := l.State().Points()
	same(t, "checkpoints", points[2:], []api.Point{want, want, want})
	same(t, "checkpoints", restart(t, d).State().Points(), points)
}

// Promise 18.4: each checkpoint is proved to extend each earlier one, also after erasures.
func TestGrowth(t *testing.T) {
	for _, n := range []int{0, 1, 2, 3, 7, 8, 13} {
		l, points := grown(t, n)
		m := mill.New()
		leaves := leavesOf(l)
		for round := range 2 {
			for b := range points {
				for a := range b + 1 {
					p, err := l.Growth(a, b)
					check(t, "Growth", err, api.OK)
					want, _ := merkle.Growth(m, leaves[:b], a)
					same(t, "growth", p, want)
					check(t, "Grown", merkle.Grown(m, points[a], points[b], p), api.OK)
				}
			}
			if round == 0 && n > 1 {
				check(t, "Drop", l.Drop("p0"), api.OK)
				check(t, "Erase", l.Erase("p1", "b"), api.OK)
				check(t, "Sweep", l.Sweep(), api.OK)
			}
		}
		for _, c := range [][2]int{{-1, 0}, {-1, -1}, {1, 0}, {n + 1, n}, {0, n + 1}, {n + 1, n + 1}, {0, -1}, {math.MinInt, math.MaxInt}, {0, math.MaxInt}, {math.MinInt, 0}, {math.MaxInt, math.MaxInt}} {
			p, err := l.Growth(c[0], c[1])
			same(t, "growth", len(p), 0)
			check(t, fmt.Sprint("Growth of ", c), err, api.ErrSize)
		}
	}
}

// accepted checks a proof against a checkpoint, as somebody does who has nothing else.
func accepted(t *testing.T, s api.Show, p api.Point) {
	t.Helper()
	m := mill.New()
	var pick []int
	var leaves []string
	for _, item := range s.Items {
		promise := item.Pledge
		if !item.Erased {
			promise = pledge.Of(m, s.ID, item.Name, item.Salt, item.Value)
		}
		pick = append(pick, item.Index)
		leaves = append(leaves, sheet.Leaf(m, item.Name, promise))
	}
	root, err := sheet.Rebuild(m, s.Count, pick, leaves, s.Nodes)
	check(t, "Rebuild", err, api.OK)
	root, err = merkle.Climb(m, sheet.Paper(m, s.ID, s.Class, s.Born, s.Count, root), s.Seq, s.Size, s.Path)
	check(t, "Climb", err, api.OK)
	same(t, "checkpoint", api.Point{Size: s.Size, Root: root}, p)
}

// Promise 18.4: any fields of a paper are proved by any checkpoint that covers it; what was proved stays so.
func TestShow(t *testing.T) {
	l, points := grown(t, 6)
	all := strings.Fields("a b c d e f")
	var old []api.Show
	for round := range 2 {
		for seq := range 6 {
			for size := seq + 1; size <= 6; size++ {
				for set := 1; set < 1<<(seq+1); set++ {
					var names []string
					var pick []int
					for i, name := range all {
						if set>>i&1 == 1 {
							names = append(names, name)
							pick = append(pick, i)
						}
					}
					id := fmt.Sprint("p", seq)
					// Neither the order of the names counts, nor those that come twice, or that the paper does not have.
					slices.Reverse(names)
					s, err := l.Show(id, append(names, names[0], "unknown", ""), size)
					check(t, "Show", err, api.OK)
					checkShow(t, l, s, seq, size, pick)
					accepted(t, s, points[size])
					old = append(old, s)
				}
			}
		}
		if round == 0 {
			for _, c := range [][2]string{{"p2", "a"}, {"p5", "b"}, {"p5", "f"}} {
				check(t, "Erase", l.Erase(c[0], c[1]), api.OK)
			}
			check(t, "Drop", l.Drop("p3"), api.OK)
			check(t, "Sweep", l.Sweep(), api.OK)
		}
	}
	for _, s := range old {
		accepted(t, s, points[s.Size])
	}
}

// checkShow checks all that a proof tells.
func checkShow(t *testing.T, l *ledger.Ledger, s api.Show, seq, size int, pick []int) {
	t.Helper()
	m := mill.New()
	e, _ := l.State().Entry(seq)
	want := api.Show{ID: e.ID, Class: e.Class, Born: e.Born, Count: len(e.Slips), Seq: seq, Size: size}
	for _, i := range pick {
		slip := e.Slips[i]
		item := api.Item{Index: i, Name: slip.Name, Erased: slip.Erased}
		if slip.Erased {
			item.Pledge = slip.Pledge
		} else {
			item.Salt = pledge.Salt(m, drawOf(e.ID), slip.Name)
			item.Value = value.Bytes(text(slip.Name))
		}
		want.Items = append(want.Items, item)
	}
	want.Nodes, _ = sheet.Nodes(m, e.Slips, pick)
	want.Path, _ = merkle.Path(m, leavesOf(l)[:size], seq)
	if fmt.Sprintf("%#v", want) != fmt.Sprintf("%#v", s) {
		t.Errorf("Show = %#v, want %#v", s, want)
	}
}

// Promise 18.4: the errors of Show, in their order.
func TestShowErrors(t *testing.T) {
	d, l := fresh(t, 600)
	add(t, l, paperOf("a", 0, "x"), paperOf("b", 0, "x", "y"), paperOf("c", 0, "x"))
	check(t, "Drop", l.Drop("a"), api.OK)
	for _, c := range []struct {
		id    string
		names []string
		size  int
		want  api.Errno
	}{
		{"d", nil, -1, api.ErrNone}, {"", []string{"x"}, 1, api.ErrNone}, {"d", []string{"x"}, 4, api.ErrNone},
		{"b", nil, 1, api.ErrSize}, {"b", []string{"x"}, 1, api.ErrSize}, {"b", []string{"x"}, 0, api.ErrSize}, {"b", []string{"x"}, -1, api.ErrSize}, {"b", []string{"x"}, 4, api.ErrSize},
		{"a", []string{"x"}, 0, api.ErrSize}, {"a", []string{"x"}, math.MinInt, api.ErrSize}, {"a", nil, math.MaxInt, api.ErrSize}, {"c", nil, 2, api.ErrSize}, {"c", nil, 4, api.ErrSize},
		{"b", nil, 2, api.ErrName}, {"b", []string{}, 3, api.ErrName}, {"b", []string{""}, 3, api.ErrName}, {"b", []string{"z", "X", "x "}, 3, api.ErrName}, {"a", []string{"y"}, 1, api.ErrName},
		{"a", []string{"x"}, 1, api.OK}, {"a", []string{"x"}, 3, api.OK}, {"b", []string{"z", "y"}, 2, api.OK}, {"c", []string{"x"}, 3, api.OK},
	} {
		image := d.Image()
		s, err := l.Show(c.id, c.names, c.size)
		check(t, fmt.Sprintf("Show(%v)", c), err, c.want)
		if err != api.OK {
			same(t, "proof", s, api.Show{})
		}
		if d.Image() != image {
			t.Error("Show has changed the disk")
		}
	}
}
