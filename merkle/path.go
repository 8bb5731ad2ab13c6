package merkle

import (
	"chartulary/api"
	"chartulary/mill"
	"chartulary/pledge"
)

// Path is the proof that leaf i is contained in the tree of the leaves l.
func Path(m *mill.Mill, l []string, i int) ([]string, api.Errno) {
	if i < 0 || i >= len(l) {
		return nil, api.ErrNone
	}
	return path(m, i, l...), api.OK
}

// path is Path for a leaf that there is.
func path(m *mill.Mill, i int, l ...string) []string {
	if len(l) == 1 {
		return nil
	}
	first, others := halves(l...)
	if i < len(first) {
		return append(path(m, i, first...), root(m, others...))
	}
	return append(path(m, i-len(first), others...), root(m, first...))
}

// Climb is the root that leaf i of n leaves and its path lead to.
func Climb(m *mill.Mill, leaf string, i, n int, p []string) (string, api.Errno) {
	if n < 1 || n > Most || i < 0 || i >= n {
		return "", api.ErrSize
	}
	if len(p) != pathLen(i, n) || !areHashes(leaf) || !areHashes(p...) {
		return "", api.ErrProof
	}
	return climb(m, leaf, i, n, p...), api.OK
}

// pathLen is how many elements the path of leaf i of n leaves has.
func pathLen(i, n int) int {
	if n == 1 {
		return 0
	}
	k := split(n)
	if i < k {
		return pathLen(i, k) + 1
	}
	return pathLen(i-k, n-k) + 1
}

// climb is Climb for a path of the right length.
func climb(m *mill.Mill, leaf string, i, n int, p ...string) string {
	if n == 1 {
		return leaf
	}
	k := split(n)
	rest, last := cut(p...)
	if i < k {
		return pledge.Node(m, climb(m, leaf, i, k, rest...), last)
	}
	return pledge.Node(m, last, climb(m, leaf, i-k, n-k, rest...))
}
