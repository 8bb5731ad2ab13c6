package ledger

import (
	"chartulary/api"
	"chartulary/event"
	"chartulary/journal"
	"chartulary/paper"
)

// Spare is how many sectors of the journal a paper leaves for what erases.
const Spare = 4

// admits is the error with which an event can't be recorded.
func (l *Ledger) admits(v api.Event) api.Errno {
	if err := l.state.Check(v); err != api.OK {
		return err
	}
	need := journal.Need(len(event.Bytes(v)))
	if v.Kind == api.EvPaper {
		need += Spare
	}
	if need > l.journal.Left() {
		return api.ErrFull
	}
	return api.OK
}

// record makes an event durable, and applies it.
func (l *Ledger) record(v api.Event) api.Errno {
	if err := l.admits(v); err != api.OK {
		return err
	}
	if err := l.ended(l.journal.Append(event.Bytes(v))); err != api.OK {
		return err
	}
	if err := l.ended(l.journal.Flush()); err != api.OK {
		return err
	}
	return l.apply(v)
}

// apply applies an event that is in the journal.
func (l *Ledger) apply(v api.Event) api.Errno {
	if err := l.state.Apply(v); err != api.OK {
		return err
	}
	if v.Kind == api.EvField || v.Kind == api.EvGone {
		l.dirty++
	}
	return api.OK
}

// Erase erases a field of a paper.
func (l *Ledger) Erase(id, name string) api.Errno {
	seq, e, err := l.stored(id)
	if err != api.OK {
		return err
	}
	for i, s := range e.Slips {
		if s.Name == name {
			return l.record(api.Event{Kind: api.EvField, Seq: seq, Index: i})
		}
	}
	return api.ErrName
}

// Drop erases a paper: all its fields, and its key.
func (l *Ledger) Drop(id string) api.Errno {
	seq, _, err := l.stored(id)
	if err != api.OK {
		return err
	}
	return l.drop(seq)
}

// drop drops paper seq.
func (l *Ledger) drop(seq int) api.Errno {
	if err := l.record(api.Event{Kind: api.EvGone, Seq: seq}); err != api.OK {
		return err
	}
	l.waiting.Drop(seq)
	e, err := l.state.Entry(seq)
	if err != api.OK {
		return err
	}
	return l.ended(l.keys.Shred(e.Slot))
}

// Hold holds a paper: until the hold is released, nothing of the paper is erased.
func (l *Ledger) Hold(id, name string) api.Errno {
	return l.recordHold(api.EvHold, id, name)
}

// Release releases a hold.
func (l *Ledger) Release(id, name string) api.Errno {
	return l.recordHold(api.EvRelease, id, name)
}

// recordHold records an event about a hold of a paper.
func (l *Ledger) recordHold(kind int, id, name string) api.Errno {
	seq, _, err := l.stored(id)
	if err != api.OK {
		return err
	}
	if !paper.IsName(name) {
		return api.ErrName
	}
	return l.record(api.Event{Kind: kind, Seq: seq, Name: name})
}

// Tick lets so much time go by.
func (l *Ledger) Tick(n int) api.Errno {
	if err := l.ready(); err != api.OK {
		return err
	}
	now := l.state.Now()
	if n < 0 || n > api.MaxClock-now {
		return api.ErrClock
	}
	return l.record(api.Event{Kind: api.EvClock, Now: now + n})
}
