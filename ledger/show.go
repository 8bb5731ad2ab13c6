package ledger

import (
	"slices"

	"chartulary/api"
	"chartulary/merkle"
	"chartulary/sheet"
)

// leaves are the leaves of the first n papers.
func (l *Ledger) leaves(n int) []string {
	var leaves []string
	for _, e := range l.state.Entries()[:n] {
		leaves = append(leaves, sheet.Entry(l.mill, e))
	}
	return leaves
}

// Point issues a checkpoint.
func (l *Ledger) Point() (api.Point, api.Errno) {
	if err := l.ready(); err != api.OK {
		return api.Point{}, err
	}
	n := l.state.Len()
	p := api.Point{Size: n, Root: merkle.Root(l.mill, l.leaves(n))}
	if err := l.record(api.Event{Kind: api.EvPoint, Point: p}); err != api.OK {
		return api.Point{}, err
	}
	return p, api.OK
}

// Growth proves that the tree of the first b papers extends that of the first a.
func (l *Ledger) Growth(a, b int) ([]string, api.Errno) {
	if err := l.ready(); err != api.OK {
		return nil, err
	}
	if a < 0 || a > b || b > l.state.Len() {
		return nil, api.ErrSize
	}
	return merkle.Growth(l.mill, l.leaves(b), a)
}

// Show proves those fields of a paper that are in names, among the first size papers.
func (l *Ledger) Show(id string, names []string, size int) (api.Show, api.Errno) {
	seq, e, err := l.stored(id)
	if err != api.OK {
		return api.Show{}, err
	}
	if seq >= size || size > l.state.Len() {
		return api.Show{}, api.ErrSize
	}
	pick := picked(e, names)
	if len(pick) == 0 {
		return api.Show{}, api.ErrName
	}
	s := api.Show{ID: e.ID, Class: e.Class, Born: e.Born, Count: len(e.Slips), Seq: seq, Size: size}
	if s.Items, err = l.items(e, pick); err != api.OK {
		return api.Show{}, err
	}
	if s.Nodes, err = sheet.Nodes(l.mill, e.Slips, pick); err != api.OK {
		return api.Show{}, err
	}
	if s.Path, err = merkle.Path(l.mill, l.leaves(size), seq); err != api.OK {
		return api.Show{}, err
	}
	return s, api.OK
}

// picked are the indices of those fields of a paper that are in names.
func picked(e api.Entry, names []string) []int {
	var pick []int
	for i, s := range e.Slips {
		if slices.Contains(names, s.Name) {
			pick = append(pick, i)
		}
	}
	return pick
}

// items are the fields of a paper with these indices, as a proof has them.
func (l *Ledger) items(e api.Entry, pick []int) ([]api.Item, api.Errno) {
	var items []api.Item
	for _, i := range pick {
		s := e.Slips[i]
		item := api.Item{Index: i, Name: s.Name}
		if s.Erased {
			item.Erased, item.Pledge = true, s.Pledge
		} else {
			var err api.Errno
			if item.Salt, item.Value, err = l.opened(e, s); err != api.OK {
				return nil, err
			}
		}
		items = append(items, item)
	}
	return items, api.OK
}
