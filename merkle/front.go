package merkle

import (
	"math/bits"

	"chartulary/mill"
	"chartulary/pledge"
)

// Front is the root of a growing list of leaves; only New makes one that grows.
type Front struct {
	mill  *mill.Mill
	size  int
	roots []string // of one tree for each power of two that the size consists of, the greatest first
}

// New is a front without leaves.
func New(m *mill.Mill) *Front {
	if m == nil {
		return nil
	}
	return &Front{mill: m}
}

// grows tells whether New made the front.
func (f *Front) grows() bool {
	return f != nil && f.mill != nil
}

// Add appends a leaf.
func (f *Front) Add(leaf string) {
	if !f.grows() {
		return
	}
	f.size++
	// As many trees as bits carry become one with the leaf. The lists are cut to have no spare capacity, so that a copy of the front keeps its own.
	n := len(f.roots) - bits.TrailingZeros(uint(f.size))
	kept, joined := f.roots[:n:n], f.roots[n:len(f.roots):len(f.roots)]
	f.roots = append(kept, join(f.mill, append(joined, leaf)...))
}

// Size is the number of leaves.
func (f *Front) Size() int {
	if !f.grows() {
		return 0
	}
	return f.size
}

// Root is the root of the leaves.
func (f *Front) Root() string {
	switch {
	case !f.grows():
		return ""
	case f.size == 0:
		return pledge.None(f.mill)
	}
	return join(f.mill, f.roots...)
}

// join is the root of a tree, given the roots of the parts from which it grows, the greatest first.
func join(m *mill.Mill, roots ...string) string {
	first, others := roots[0], roots[1:]
	if len(others) == 0 {
		return first
	}
	return pledge.Node(m, first, join(m, others[:len(others):len(others)]...))
}
