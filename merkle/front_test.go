package merkle_test

import (
	"strings"
	"testing"

	"chartulary/merkle"
	"chartulary/mill"
)

// checkFront checks what a front answers.
func checkFront(t *testing.T, what string, f *merkle.Front, size int, root string) {
	t.Helper()
	if f.Size() != size || f.Root() != root {
		t.Errorf("%s: Size = %d, Root = %x, want %d, %x", what, f.Size(), f.Root(), size, root)
	}
}

// Promise 7.4.
func TestFront(t *testing.T) {
	m := mill.New()
	f, quiet := merkle.New(m), merkle.New(m)
	l := leaves(300)
	for n, s := range l {
		checkFront(t, "growing", f, n, rootOf(l[:n]))
		f.Add(s)
		quiet.Add(s)
	}
	checkFront(t, "all", f, 300, rootOf(l))
	checkFront(t, "never asked before", quiet, 300, rootOf(l))
}

// Promise 7.4: a front has no limit.
func TestFrontBeyondMost(t *testing.T) {
	f, l := merkle.New(mill.New()), leaves(merkle.Most+2)
	for n, s := range l {
		if n >= merkle.Most-1 {
			checkFront(t, "many", f, n, rootOf(l[:n]))
		}
		f.Add(s)
	}
	checkFront(t, "all", f, merkle.Most+2, rootOf(l))
}

// Promise 7.4: leaves may be any strings, and the same ones.
func TestFrontOfTexts(t *testing.T) {
	f := merkle.New(mill.New())
	l := []string{"", "", "x", strings.Repeat("y", 500), "x", "", "x"}
	for n, s := range l {
		f.Add(s)
		checkFront(t, "texts", f, n+1, rootOf(l[:n+1]))
	}
}

// Promise 7.4: the hashes are those of the mill.
func TestFrontWithTable(t *testing.T) {
	a, b := strings.Repeat("a", 32), strings.Repeat("b", 32)
	f := merkle.New(with(t, mill.Entry{Text: "", Out: a}, mill.Entry{Text: "\x01xy", Out: b}))
	checkFront(t, "none", f, 0, a)
	f.Add("x")
	checkFront(t, "one", f, 1, "x")
	f.Add("y")
	checkFront(t, "two", f, 2, b)
	f.Add("z")
	checkFront(t, "three", f, 3, node(b, "z"))
}

// Promise 7.4: fronts of one mill are apart from each other, and a copy is apart from what it was copied from.
func TestFrontsApart(t *testing.T) {
	m, l := mill.New(), leaves(40)
	for n := range 20 {
		f, other := merkle.New(m), merkle.New(m)
		for _, s := range l[:n] {
			f.Add(s)
		}
		dup := *f
		mixed := append([]string{}, l[:n]...)
		for _, s := range l[n:] {
			f.Add(s)
			dup.Add("another")
			mixed = append(mixed, "another")
		}
		checkFront(t, "front", f, 40, rootOf(l))
		checkFront(t, "copy", &dup, 40, rootOf(mixed))
		checkFront(t, "other", other, 0, none)
	}
}

// Promise 7.4: New(nil) is nil, and a front that New did not make stays empty.
func TestFrontOfNothing(t *testing.T) {
	if f := merkle.New(nil); f != nil {
		t.Errorf("New(nil) = %v", f)
	}
	for name, f := range map[string]*merkle.Front{"New(nil)": merkle.New(nil), "nil": nil, "zero": {}} {
		for range 3 {
			checkFront(t, name, f, 0, "")
			f.Add("x")
		}
	}
}

// Rule R1: the hashes of a mill that does not work are empty.
func TestFrontOfIdleMill(t *testing.T) {
	f := merkle.New(&mill.Mill{})
	if f == nil {
		t.Fatal("New of an idle mill is nil")
	}
	checkFront(t, "none", f, 0, "")
	f.Add("x")
	checkFront(t, "one", f, 1, "x")
	f.Add("y")
	checkFront(t, "two", f, 2, "")
}
