package sheet_test

import (
	"crypto/sha256"
	"math"
	"slices"
	"strconv"
	"strings"
	"testing"

	"chartulary/api"
	"chartulary/mill"
	"chartulary/pledge"
	"chartulary/sheet"
)

// sum is the hash of s, as Go's library has it.
func sum(s string) string {
	h := sha256.Sum256([]byte(s))
	return string(h[:])
}

// node is the hash of two children.
func node(a, b string) string {
	return sum("\x01" + a + b)
}

// short is the encoding of a string of fewer than 256 bytes.
func short(s string) string {
	if s == "" {
		return "\x00"
	}
	return "\x01" + string([]byte{byte(len(s))}) + s
}

// leafOf is the leaf of a slip with a short name and a short pledge.
func leafOf(s api.Slip) string {
	return sum("\x00" + short(s.Name) + short(s.Pledge))
}

// leavesOf are the leaves of slips.
func leavesOf(l []api.Slip) []string {
	var r []string
	for _, s := range l {
		r = append(r, leafOf(s))
	}
	return r
}

// rootOf is the root of leaves, computed level by level: two neighbours become one, and a last one without a neighbour rises as it is.
func rootOf(l []string) string {
	if len(l) == 0 {
		return sum("")
	}
	for len(l) > 1 {
		var up []string
		for i := 0; i+1 < len(l); i += 2 {
			up = append(up, node(l[i], l[i+1]))
		}
		if len(l)%2 == 1 {
			up = append(up, l[len(l)-1])
		}
		l = up
	}
	return l[0]
}

// slips are n different slips, every third of which is erased.
func slips(n int) []api.Slip {
	l := make([]api.Slip, n)
	for i := range l {
		s := strconv.Itoa(i)
		l[i] = api.Slip{Name: "f" + s, Pledge: sum("pledge " + s), Cipher: "cipher " + s}
		if i%3 == 1 {
			l[i] = erased(l[i])
		}
	}
	return l
}

// erased is a slip of which only the name and the pledge are left.
func erased(s api.Slip) api.Slip {
	return api.Slip{Name: s.Name, Pledge: s.Pledge, Erased: true}
}

// idle are mills that New and With did not make.
func idle() map[string]*mill.Mill {
	return map[string]*mill.Mill{"nil": nil, "zero": {}}
}

// with is a mill with a table.
func with(t *testing.T, l ...mill.Entry) *mill.Mill {
	t.Helper()
	m, e := mill.With(l)
	if e != api.OK {
		t.Fatal(e)
	}
	return m
}

// spare is l in a list with room behind it, and all of it.
func spare[T any](l []T) (list, all []T) {
	all = append(slices.Clone(l), make([]T, 3)...)
	return all[:len(l)], all
}

// checkSpare checks that a call wrote neither to a list nor to the room behind it.
func checkSpare[T comparable](t *testing.T, what string, all, want []T) {
	t.Helper()
	if !slices.Equal(all, append(slices.Clone(want), make([]T, 3)...)) {
		t.Errorf("%s changed an argument", what)
	}
}

// Promise 8.1.
func TestLeaf(t *testing.T) {
	long := strings.Repeat("x", 300)
	for _, c := range []struct{ name, promise, want string }{
		{"a", "b", "\x00\x01\x01a\x01\x01b"},
		{"", "", "\x00\x00\x00"},
		{"a", "", "\x00\x01\x01a\x00"},
		{"", "a", "\x00\x00\x01\x01a"},
		{"ab", "c", "\x00\x01\x02ab\x01\x01c"},
		{"a", "bc", "\x00\x01\x01a\x01\x02bc"},
		{"\x00", "\xff", "\x00\x01\x01\x00\x01\x01\xff"},
		{"name", sum("x"), "\x00\x01\x04name\x01\x20" + sum("x")},
		{long, long, "\x00\x02\x01\x2c" + long + "\x02\x01\x2c" + long},
	} {
		if got := sheet.Leaf(mill.New(), c.name, c.promise); got != sum(c.want) {
			t.Errorf("Leaf(%.9q, %.9q) = %x, want the hash of %.40q", c.name, c.promise, got, c.want)
		}
	}
}

// Promise 8.1.
func TestRoot(t *testing.T) {
	for n := range 70 {
		l := slips(n)
		list, all := spare(l)
		if got := sheet.Root(mill.New(), list); got != rootOf(leavesOf(l)) {
			t.Errorf("Root of %d slips = %x, want %x", n, got, rootOf(leavesOf(l)))
		}
		checkSpare(t, "Root", all, l)
	}
	if sheet.Root(mill.New(), nil) != sum("") || sheet.Root(mill.New(), []api.Slip{}) != sum("") {
		t.Error("Root of no slips is not the hash of no leaves")
	}
	if l := slips(1); sheet.Root(mill.New(), l) != leafOf(l[0]) {
		t.Error("Root of one slip is not its leaf")
	}
}

// Promise 8.1: the leaves stand in the order of the slips, whatever their names and pledges.
func TestRootOrder(t *testing.T) {
	a, b, c := api.Slip{Name: "a", Pledge: "1"}, api.Slip{Name: "b", Pledge: "2"}, api.Slip{}
	for _, l := range [][]api.Slip{{a, b, c}, {c, b, a}, {b, a, c}, {a, a, b}, {c, c, c}, {b, a}, {a, b}} {
		want := node(leafOf(l[0]), leafOf(l[1]))
		if len(l) == 3 {
			want = node(want, leafOf(l[2]))
		}
		if got := sheet.Root(mill.New(), l); got != want {
			t.Errorf("Root(%v) = %x, want %x", l, got, want)
		}
	}
}

// Promise 8.4: erasing a field changes no leaf.
func TestErasedRoot(t *testing.T) {
	m := mill.New()
	l := []api.Slip{pledge.Slip(m, "draw", "id", "a", "1"), pledge.Slip(m, "draw", "id", "b", "2"), pledge.Slip(m, "draw", "id", "c", "3")}
	root, entry := sheet.Root(m, l), sheet.Entry(m, api.Entry{ID: "id", Slips: l})
	for i := range l {
		l[i] = erased(l[i])
		if sheet.Root(m, l) != root || sheet.Entry(m, api.Entry{ID: "id", Slips: l}) != entry {
			t.Errorf("erasing the fields up to %d changed the root", i)
		}
	}
	gone := api.Entry{ID: "id", Slips: l, Slot: 7, Gone: true, Holds: []string{"h"}}
	if sheet.Entry(m, gone) != entry {
		t.Error("what no leaf is made of changed the leaf")
	}
}

// number is a number with its encoding.
type number struct {
	n    int
	code string
}

// numbers are numbers with an encoding, with those at which one byte more is needed.
func numbers() []number {
	return []number{
		{0, "\x00"}, {1, "\x01\x01"}, {12, "\x01\x0c"}, {255, "\x01\xff"}, {256, "\x02\x01\x00"}, {65535, "\x02\xff\xff"},
		{1 << 40, "\x06\x01\x00\x00\x00\x00\x00"}, {1<<56 - 1, "\x07\xff\xff\xff\xff\xff\xff\xff"},
	}
}

// Promise 8.1.
func TestPaper(t *testing.T) {
	long := strings.Repeat("x", 300)
	for _, class := range numbers() {
		for _, born := range numbers() {
			for _, count := range numbers() {
				want := sum("\x00\x01\x02id" + class.code + born.code + count.code + "\x01\x04root")
				if got := sheet.Paper(mill.New(), "id", class.n, born.n, count.n, "root"); got != want {
					t.Errorf("Paper of %d, %d, %d = %x, want %x", class.n, born.n, count.n, got, want)
				}
			}
		}
	}
	for _, c := range []struct{ id, root, want string }{
		{"", "", "\x00\x00\x01\x01\x01\x02\x01\x03\x00"},
		{"a", "", "\x00\x01\x01a\x01\x01\x01\x02\x01\x03\x00"},
		{"", "a", "\x00\x00\x01\x01\x01\x02\x01\x03\x01\x01a"},
		{"\x00", sum("x"), "\x00\x01\x01\x00\x01\x01\x01\x02\x01\x03\x01\x20" + sum("x")},
		{long, long, "\x00\x02\x01\x2c" + long + "\x01\x01\x01\x02\x01\x03\x02\x01\x2c" + long},
	} {
		if got := sheet.Paper(mill.New(), c.id, 1, 2, 3, c.root); got != sum(c.want) {
			t.Errorf("Paper of %.9q and %.9q = %x, want the hash of %.40q", c.id, c.root, got, c.want)
		}
	}
}

// uncoded are numbers without an encoding.
func uncoded() []int {
	return []int{-1, -256, math.MinInt, 1 << 56, 1<<56 + 1, math.MaxInt}
}

// Promise 8.1, example 2.
func TestPaperWithoutEncoding(t *testing.T) {
	m := mill.New()
	for _, n := range uncoded() {
		for _, r := range [][3]int{{n, 0, 0}, {0, n, 0}, {0, 0, n}, {n, n, 0}, {n, 1, n}, {5, n, n}, {n, n, n}} {
			if got := sheet.Paper(m, "id", r[0], r[1], r[2], "root"); got != "" {
				t.Errorf("Paper of %d = %x", r, got)
			}
		}
		if got := sheet.Entry(m, api.Entry{ID: "id", Class: n, Slips: slips(2)}); got != "" {
			t.Errorf("Entry of the class %d = %x", n, got)
		}
		if got := sheet.Entry(m, api.Entry{ID: "id", Born: n, Slips: slips(2)}); got != "" {
			t.Errorf("Entry of the time %d = %x", n, got)
		}
	}
}

// Promise 8.1.
func TestEntry(t *testing.T) {
	for n := range 15 {
		l := slips(n)
		list, all := spare(l)
		e := api.Entry{ID: "id", Class: 5, Born: 256, Slot: 9, Slips: list}
		count := "\x01" + string([]byte{byte(n)})
		if n == 0 {
			count = "\x00"
		}
		want := sum("\x00\x01\x02id\x01\x05\x02\x01\x00" + count + short(rootOf(leavesOf(l))))
		if got := sheet.Entry(mill.New(), e); got != want {
			t.Errorf("Entry with %d slips = %x, want %x", n, got, want)
		}
		checkSpare(t, "Entry", all, l)
	}
	want := sum("\x00\x00\x00\x00\x00\x01\x20" + sum(""))
	if got := sheet.Entry(mill.New(), api.Entry{}); got != want {
		t.Errorf("Entry of nothing = %x, want %x", got, want)
	}
}

// Promise 8.1: each of what a leaf is made of changes it.
func TestEntryOfAnother(t *testing.T) {
	m := mill.New()
	l := slips(3)
	other := slices.Clone(l)
	other[1].Pledge = l[2].Pledge
	renamed := slices.Clone(l)
	renamed[2].Name = "g"
	met := map[string]int{}
	for i, e := range []api.Entry{
		{ID: "id", Class: 1, Born: 2, Slips: l}, {ID: "ix", Class: 1, Born: 2, Slips: l}, {Class: 1, Born: 2, Slips: l},
		{ID: "id", Class: 2, Born: 2, Slips: l}, {ID: "id", Class: 1, Born: 1, Slips: l}, {ID: "id", Class: 2, Born: 1, Slips: l},
		{ID: "id", Class: 1, Born: 2, Slips: other}, {ID: "id", Class: 1, Born: 2, Slips: renamed}, {ID: "id", Class: 1, Born: 2, Slips: l[:2]},
		{ID: "id", Class: 1, Born: 2, Slips: []api.Slip{l[1], l[0], l[2]}}, {ID: "id", Class: 1, Born: 2},
	} {
		h := sheet.Entry(m, e)
		if j, there := met[h]; there || len(h) != api.HashBytes {
			t.Errorf("Entry of %d is %x, as of %d", i, h, j)
		}
		met[h] = i
	}
}

// Promise 8.1: the hashes are those of the mill.
func TestLeafWithTable(t *testing.T) {
	a, b, c, d := strings.Repeat("a", 32), strings.Repeat("b", 32), strings.Repeat("c", 32), strings.Repeat("d", 32)
	m := with(t,
		mill.Entry{Text: "\x00\x01\x01x\x01\x01y", Out: a},
		mill.Entry{Text: "\x01" + a + a, Out: b},
		mill.Entry{Text: "\x00\x01\x02id\x00\x01\x07\x01\x02\x01\x20" + b, Out: c},
		mill.Entry{Text: "", Out: d},
	)
	l := []api.Slip{{Name: "x", Pledge: "y"}, {Name: "x", Pledge: "y"}}
	if got := sheet.Leaf(m, "x", "y"); got != a {
		t.Errorf("Leaf = %q", got)
	}
	if got := sheet.Root(m, l); got != b {
		t.Errorf("Root = %q", got)
	}
	if got := sheet.Root(m, nil); got != d {
		t.Errorf("Root of no slips = %q", got)
	}
	if got := sheet.Paper(m, "id", 0, 7, 2, b); got != c {
		t.Errorf("Paper = %q", got)
	}
	if got := sheet.Entry(m, api.Entry{ID: "id", Born: 7, Slips: l}); got != c {
		t.Errorf("Entry = %q", got)
	}
}

// Rule R1: with a nil mill all hashes are empty.
func TestLeafWithoutMill(t *testing.T) {
	for name, m := range idle() {
		for n := range 14 {
			if got := sheet.Root(m, slips(n)); got != "" {
				t.Errorf("%s: Root of %d slips = %q", name, n, got)
			}
			if got := sheet.Entry(m, api.Entry{ID: "id", Slips: slips(n)}); got != "" {
				t.Errorf("%s: Entry with %d slips = %q", name, n, got)
			}
		}
		if got := sheet.Leaf(m, "x", "y"); got != "" {
			t.Errorf("%s: Leaf = %q", name, got)
		}
		if got := sheet.Paper(m, "id", 1, 2, 3, "root") + sheet.Paper(m, "id", -1, 2, 3, "root"); got != "" {
			t.Errorf("%s: Paper = %q", name, got)
		}
	}
}
