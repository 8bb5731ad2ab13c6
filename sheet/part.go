package sheet

import (
	"math/bits"
	"slices"
)

// part is a part of a tree, with a root of its own: so many leaves, from first on.
type part struct {
	first, size int
}

// halves are the parts below the two children of the root of a part of more than one leaf.
func (p part) halves() (part, part) {
	k := 1 << (bits.Len(uint(p.size-1)) - 1)
	return part{p.first, k}, part{p.first + k, p.size - k}
}

// siblings are the parts whose roots the picked leaves of p need beside them, from left to right: p itself if none is picked.
func siblings(p part, pick []int) []part {
	switch {
	case len(pick) == 0:
		return []part{p}
	case p.size == 1:
		return nil
	}
	left, right := p.halves()
	k := before(pick, right)
	return append(siblings(left, pick[:k]), siblings(right, pick[k:])...)
}

// before is how many of the picked indices lie before a part.
func before(pick []int, p part) int {
	k, _ := slices.BinarySearch(pick, p.first)
	return k
}
