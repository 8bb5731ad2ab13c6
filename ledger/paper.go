package ledger

import (
	"chartulary/api"
	"chartulary/find"
	"chartulary/paper"
	"chartulary/pledge"
	"chartulary/value"
)

// Append stores a paper, with the secrets that are derived from its draw, and answers its number.
func (l *Ledger) Append(p api.Paper, draw string) (int, api.Errno) {
	slot, err := l.place(p, draw)
	if err != api.OK {
		return 0, err
	}
	v := api.Event{Kind: api.EvPaper, Entry: l.entry(p, draw, slot)}
	if err := l.admits(v); err != api.OK {
		return 0, err
	}
	// The key comes first, since no paper may be stored without one; a power loss may leave a key without a paper, which Open shreds.
	if err := l.ended(l.keys.Put(slot, pledge.Key(l.mill, draw))); err != api.OK {
		return 0, err
	}
	seq := l.state.Len()
	if err := l.record(v); err != api.OK {
		return 0, err
	}
	l.await(seq)
	return seq, api.OK
}

// place is the slot for the key of a new paper.
func (l *Ledger) place(p api.Paper, draw string) (int, api.Errno) {
	if err := l.ready(); err != api.OK {
		return 0, err
	}
	if err := paper.Check(p); err != api.OK {
		return 0, err
	}
	if len(draw) != api.DrawBytes {
		return 0, api.ErrArg
	}
	if _, err := l.state.Seq(p.ID); err == api.OK {
		return 0, api.ErrTwice
	}
	return l.keys.Find()
}

// entry is a paper as it is to be stored.
func (l *Ledger) entry(p api.Paper, draw string, slot int) api.Entry {
	p = paper.Tidy(p)
	e := api.Entry{ID: p.ID, Class: p.Class, Born: l.state.Now(), Slot: slot}
	for _, f := range p.Fields {
		e.Slips = append(e.Slips, pledge.Slip(l.mill, draw, p.ID, f.Name, value.Bytes(f.Value)))
	}
	return e
}

// key is the key in a slot that a paper uses.
func (l *Ledger) key(slot int) (string, api.Errno) {
	key, err := l.keys.Get(slot)
	if err != api.OK {
		return "", api.ErrDamage
	}
	return key, api.OK
}

// opened is the salt of a field that is not erased, and its value's encoding.
func (l *Ledger) opened(e api.Entry, s api.Slip) (string, string, api.Errno) {
	key, err := l.key(e.Slot)
	if err != api.OK {
		return "", "", err
	}
	salt, v, ok := pledge.Kept(l.mill, key, e.ID, s)
	if !ok {
		return "", "", api.ErrDamage
	}
	return salt, v, api.OK
}

// Get is a paper's fields that are not erased, and the names of those that are.
func (l *Ledger) Get(id string) ([]api.Field, []string, api.Errno) {
	_, e, err := l.stored(id)
	if err != api.OK {
		return nil, nil, err
	}
	return l.fields(e)
}

// fields are the fields of a stored paper that are not erased, and the names of those that are.
func (l *Ledger) fields(e api.Entry) ([]api.Field, []string, api.Errno) {
	var fields []api.Field
	var lost []string
	for _, s := range e.Slips {
		if s.Erased {
			lost = append(lost, s.Name)
			continue
		}
		v, err := l.value(e, s)
		if err != api.OK {
			return nil, nil, err
		}
		fields = append(fields, api.Field{Name: s.Name, Value: v})
	}
	return fields, lost, api.OK
}

// value is the value of a field that is not erased.
func (l *Ledger) value(e api.Entry, s api.Slip) (api.Value, api.Errno) {
	_, encoded, err := l.opened(e, s)
	if err != api.OK {
		return api.Value{}, err
	}
	v, err := value.Read(encoded)
	if err != api.OK {
		return api.Value{}, api.ErrDamage
	}
	return v, api.OK
}

// Papers are all papers, with the fields that are not erased.
func (l *Ledger) Papers() ([]api.Paper, api.Errno) {
	if err := l.ready(); err != api.OK {
		return nil, err
	}
	var papers []api.Paper
	for _, e := range l.state.Entries() {
		fields, _, err := l.fields(e)
		if err != api.OK {
			return nil, err
		}
		papers = append(papers, api.Paper{ID: e.ID, Class: e.Class, Fields: fields})
	}
	return papers, api.OK
}

// Find is the numbers of the papers that a query finds.
func (l *Ledger) Find(q find.Query) ([]int, api.Errno) {
	papers, err := l.Papers()
	if err != api.OK {
		return nil, err
	}
	return find.Run(q, papers)
}
