package ledger

import (
	"chartulary/api"
	"chartulary/disk"
	"chartulary/event"
	"chartulary/guard"
	"chartulary/journal"
	"chartulary/keyring"
	"chartulary/mill"
	"chartulary/policy"
	"chartulary/state"
	"chartulary/super"
)

// Open opens the ledger on a disk, and completes what a power loss has left unfinished.
func Open(d *disk.Disk, m *mill.Mill, p policy.Policy) (*Ledger, api.Errno) {
	if m == nil || !p.Right() {
		return nil, api.ErrArg
	}
	s, err := super.Load(d)
	switch {
	case err != api.OK:
		return nil, err
	case s.Boot == guard.MaxBoot || s.Gen == super.MaxGen:
		return nil, api.ErrFull
	}
	l := &Ledger{&parts{state: state.New(), mill: m, policy: p}}
	if err := l.start(d, s); err != api.OK {
		return nil, err
	}
	// Nothing is wiped before all is known to be there.
	if err := l.replay(); err != api.OK {
		return nil, err
	}
	if err := l.checkKeys(); err != api.OK {
		return nil, err
	}
	if err := l.complete(); err != api.OK {
		return nil, err
	}
	return l, api.OK
}

// start begins the boot after that of the superblock s, and finds the keys and the journal.
func (l *Ledger) start(d *disk.Disk, s super.Super) api.Errno {
	l.super = super.Next(s, false)
	l.super.Boot++
	var err api.Errno
	if l.guard, err = guard.New(d, l.super.Boot); err != api.OK {
		return err
	}
	slots, _, _ := Plan(d.Size())
	if l.keys, err = keyring.New(l.guard, supers, slots); err != api.OK {
		return err
	}
	if err = super.Save(l.guard, l.super); err != api.OK {
		return err
	}
	l.journal, err = l.records(l.super)
	return err
}

// records is the journal that a superblock names.
func (l *Ledger) records(s super.Super) (*journal.Journal, api.Errno) {
	base, size := l.side(s.Side)
	return journal.Open(l.guard, base, size, s.Seed)
}

// replay applies the events of the journal, and lets the papers wait.
func (l *Ledger) replay() api.Errno {
	for _, s := range l.journal.Records() {
		v, err := event.Read(s)
		if err != api.OK || l.apply(v) != api.OK {
			return api.ErrDamage
		}
	}
	for seq := range l.state.Len() {
		l.await(seq)
	}
	return api.OK
}

// checkKeys is the error for papers that are not gone, but whose keys are.
func (l *Ledger) checkKeys() api.Errno {
	for _, slot := range l.state.Used() {
		if _, err := l.key(slot); err != api.OK {
			return err
		}
	}
	return api.OK
}

// complete erases what no paper needs: the rest of a sweep, of a record and of an erasure may be there.
func (l *Ledger) complete() api.Errno {
	if err := l.wipe(1 - l.super.Side); err != api.OK {
		return err
	}
	base, _ := l.side(l.super.Side)
	if _, err := journal.Wipe(l.guard, base+l.journal.Used(), l.journal.Left()); err != api.OK {
		return err
	}
	_, err := l.keys.Keep(l.state.Used())
	return err
}
