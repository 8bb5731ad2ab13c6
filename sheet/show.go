package sheet

import (
	"chartulary/api"
	"chartulary/mill"
	"chartulary/pledge"
)

// Rising tells whether indices are strictly increasing, not negative, and less than n.
func Rising(l []int, n int) bool {
	last := -1
	for _, i := range l {
		if i <= last || i >= n {
			return false
		}
		last = i
	}
	return true
}

// Nodes are the sibling roots of the picked indices, one at least, in the sheet of a paper's slips.
func Nodes(m *mill.Mill, l []api.Slip, pick []int) ([]string, api.Errno) {
	if len(pick) == 0 || !Rising(pick, len(l)) {
		return nil, api.ErrArg
	}
	var nodes []string
	for _, p := range siblings(part{size: len(l)}, pick) {
		nodes = append(nodes, Root(m, l[p.first:p.first+p.size]))
	}
	return nodes, api.OK
}

// Rebuild is the root of a tree of n leaves that the picked leaves and their sibling roots lead to.
func Rebuild(m *mill.Mill, n int, pick []int, leaf, nodes []string) (string, api.Errno) {
	if n < 1 || n > api.MaxFields || len(pick) == 0 || len(pick) != len(leaf) || !Rising(pick, n) {
		return "", api.ErrSize
	}
	whole := part{size: n}
	if len(nodes) != len(siblings(whole, pick)) || !areHashes(nodes) {
		return "", api.ErrProof
	}
	root, _ := rebuild(m, whole, pick, leaf, nodes)
	return root, api.OK
}

// areHashes tells whether all strings are as long as a hash.
func areHashes(l []string) bool {
	for _, s := range l {
		if len(s) != api.HashBytes {
			return false
		}
	}
	return true
}

// rebuild is the root of a part, and the nodes that are left for the parts behind it.
func rebuild(m *mill.Mill, p part, pick []int, leaf, nodes []string) (string, []string) {
	switch {
	case len(pick) == 0:
		return nodes[0], nodes[1:]
	case p.size == 1:
		return leaf[0], nodes
	}
	left, right := p.halves()
	k := before(pick, right)
	a, nodes := rebuild(m, left, pick[:k], leaf[:k], nodes)
	b, nodes := rebuild(m, right, pick[k:], leaf[k:], nodes)
	return pledge.Node(m, a, b), nodes
}
