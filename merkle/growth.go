package merkle

import (
	"chartulary/api"
	"chartulary/mill"
	"chartulary/pledge"
)

// maxGrowth is how many elements a growth proof has at most: a root for each level of the greatest tree, and one at which it begins.
const maxGrowth = api.MaxPath + 1

// Growth is the proof that the tree of the leaves l extends that of the first a of them.
func Growth(m *mill.Mill, l []string, a int) ([]string, api.Errno) {
	if a < 0 || a > len(l) {
		return nil, api.ErrSize
	}
	if a == 0 {
		return nil, api.OK
	}
	return growth(m, a, true, l...), api.OK
}

// growth is Growth for a > 0; whole tells that the first a leaves are those of the older tree, whose root the verifier has.
func growth(m *mill.Mill, a int, whole bool, l ...string) []string {
	if a == len(l) && whole {
		return nil
	}
	if a == len(l) {
		return []string{root(m, l...)}
	}
	first, others := halves(l...)
	if a <= len(first) {
		return append(growth(m, a, whole, first...), root(m, others...))
	}
	return append(growth(m, a-len(first), false, others...), root(m, first...))
}

// Grown tells whether p proves that the checkpoint to extends the checkpoint from; OK: it does.
func Grown(m *mill.Mill, from, to api.Point, p []string) api.Errno {
	switch {
	case from.Size < 0 || from.Size > to.Size || to.Size > Most:
		return api.ErrSize
	case !areHashes(from.Root, to.Root):
		return api.ErrRoot
	case len(p) > maxGrowth || !areHashes(p...):
		return api.ErrProof
	case from.Size == 0:
		return grownFromNone(m, from, to, p...)
	case len(p) != growthLen(from.Size, to.Size, true):
		return api.ErrProof
	}
	older, newer := lead(m, from.Root, from.Size, to.Size, true, p...)
	if older != from.Root || newer != to.Root {
		return api.ErrRoot
	}
	return api.OK
}

// grownFromNone is Grown for a checkpoint of no leaves, which every other one extends.
func grownFromNone(m *mill.Mill, from, to api.Point, p ...string) api.Errno {
	switch {
	case from.Root != pledge.None(m) || to.Size == 0 && to.Root != from.Root:
		return api.ErrRoot
	case len(p) > 0:
		return api.ErrProof
	}
	return api.OK
}

// growthLen is how many elements the growth proof from a > 0 leaves to n has.
func growthLen(a, n int, whole bool) int {
	if a == n && whole {
		return 0
	}
	if a == n {
		return 1
	}
	k := split(n)
	if a <= k {
		return growthLen(a, k, whole) + 1
	}
	return growthLen(a-k, n-k, false) + 1
}

// lead are the roots of a leaves and of n that the older tree's root and a growth proof of the right length lead to.
func lead(m *mill.Mill, from string, a, n int, whole bool, p ...string) (string, string) {
	if a == n && whole {
		return from, from
	}
	rest, last := cut(p...)
	if a == n {
		return last, last
	}
	k := split(n)
	if a <= k {
		older, newer := lead(m, from, a, k, whole, rest...)
		return older, pledge.Node(m, newer, last)
	}
	older, newer := lead(m, from, a-k, n-k, false, rest...)
	return pledge.Node(m, last, older), pledge.Node(m, last, newer)
}
