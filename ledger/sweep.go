package ledger

import (
	"errors"

	"chartulary/api"
	"chartulary/event"
	"chartulary/super"
)

// What a step did.
const (
	Idle  = 0
	Wiped = 1 // a paper was dropped that was due
	Swept = 2
)

// Step drops the first paper that is due and not held; if there is none, it sweeps what was erased.
func (l *Ledger) Step() (int, api.Errno) {
	if err := l.ready(); err != api.OK {
		return 0, err
	}
	if d, ok := l.waiting.Ready(l.state.Now(), l.held()); ok {
		return done(Wiped, l.drop(d.Seq))
	}
	if l.dirty > 0 {
		return done(Swept, l.Sweep())
	}
	return Idle, api.OK
}

// done is what a step did, unless it has failed.
func done(what int, err api.Errno) (int, api.Errno) {
	if err != api.OK {
		return 0, err
	}
	return what, api.OK
}

// held are the numbers of the papers that have a hold.
func (l *Ledger) held() []int {
	var held []int
	for seq, e := range l.state.Entries() {
		if len(e.Holds) > 0 {
			held = append(held, seq)
		}
	}
	return held
}

// Sweep writes what is left into the journal's other side, lets that one count, and wipes this one, with all that was erased.
func (l *Ledger) Sweep() api.Errno {
	if err := l.ready(); err != api.OK {
		return err
	}
	if l.super.Gen == super.MaxGen {
		return api.ErrFull
	}
	this, other := l.super.Side, 1-l.super.Side
	err := l.ended(l.turn())
	if errors.Is(err, api.ErrFull) {
		// A part of the state is there, which must not be taken for all of it.
		if err := l.ended(l.wipe(other)); err != api.OK {
			return err
		}
	}
	if err != api.OK {
		return err
	}
	return l.ended(l.wipe(this))
}

// turn copies the state to the other side, and makes it the active one.
func (l *Ledger) turn() api.Errno {
	next := super.Next(l.super, true)
	j, err := l.records(next)
	if err != api.OK {
		return err
	}
	for _, v := range l.state.Snapshot() {
		if err := j.Append(event.Bytes(v)); err != api.OK {
			return err
		}
	}
	if err := j.Flush(); err != api.OK {
		return err
	}
	if err := super.Save(l.guard, next); err != api.OK {
		return err
	}
	l.super, l.journal, l.dirty = next, j, 0
	return api.OK
}
