package ledger

import (
	"chartulary/api"
	"chartulary/disk"
	"chartulary/guard"
	"chartulary/journal"
	"chartulary/super"
)

const (
	// supers is how many sectors the superblock occupies.
	supers = 2

	// slotShare is for how many sectors there is one slot.
	slotShare = 8

	// sides is how many sides the journal has, which take turns.
	sides = 2
)

// Plan is the layout of a disk of so many sectors: the number of slots, the first sector of the first side, and the number of sectors of a side.
func Plan(size int) (int, int, int) {
	if size <= supers {
		return 0, 0, 0
	}
	slots := min(api.MaxPapers, (size-supers)/slotShare)
	first := supers + slots
	return slots, first, (size - first) / sides
}

// Format makes a disk one that Open can open.
func Format(d *disk.Disk) api.Errno {
	if slots, _, size := Plan(d.Size()); slots == 0 || size == 0 {
		return api.ErrArg
	}
	switch _, err := super.Load(d); err {
	case api.OK:
		return api.ErrThere
	case api.ErrNone:
	default:
		return err
	}
	first := super.Super{Gen: 1, Boot: 1, Side: 0, Seed: 1}
	g, err := guard.New(d, first.Boot)
	if err != api.OK {
		return err
	}
	// Records that somebody left there could have the seed of the first side.
	if _, err := journal.Wipe(g, 0, d.Size()); err != api.OK {
		return err
	}
	return super.Save(g, first)
}

// side is the first sector of a side of the journal, and the number of its sectors.
func (l *Ledger) side(i int) (int, int) {
	_, first, size := Plan(l.guard.Disk().Size())
	return first + i*size, size
}

// wipe wipes a side of the journal.
func (l *Ledger) wipe(i int) api.Errno {
	base, size := l.side(i)
	_, err := journal.Wipe(l.guard, base, size)
	return err
}
