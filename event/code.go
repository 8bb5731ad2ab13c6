package event

import (
	"chartulary/api"
	"chartulary/octet"
)

// Bytes is the encoding of v; empty, if v is not valid.
func Bytes(v api.Event) string {
	if !Right(v) {
		return ""
	}
	var w octet.Writer
	w.Num(v.Kind)
	switch v.Kind {
	case api.EvPaper:
		writeEntry(&w, v.Entry)
	case api.EvField:
		w.Num(v.Seq)
		w.Num(v.Index)
	case api.EvGone:
		w.Num(v.Seq)
	case api.EvHold, api.EvRelease:
		w.Num(v.Seq)
		w.Text(v.Name)
	case api.EvPoint:
		w.Num(v.Point.Size)
		w.Text(v.Point.Root)
	case api.EvClock:
		w.Num(v.Now)
	}
	s, _ := w.All()
	return s
}

// writeEntry appends an entry.
func writeEntry(w *octet.Writer, e api.Entry) {
	w.Text(e.ID)
	w.Num(e.Class)
	w.Num(e.Born)
	w.Num(e.Slot)
	w.Flag(e.Gone)
	w.Texts(e.Holds...)
	w.Num(len(e.Slips))
	for _, s := range e.Slips {
		writeSlip(w, s)
	}
}

// writeSlip appends a slip.
func writeSlip(w *octet.Writer, s api.Slip) {
	w.Text(s.Name)
	w.Text(s.Pledge)
	w.Flag(s.Erased)
	if !s.Erased {
		w.Text(s.Cipher)
	}
}

// Read is the clean event with an encoding.
func Read(s string) (api.Event, api.Errno) {
	r := octet.Read(s)
	v := api.Event{Kind: r.Num(api.EvClock)}
	switch v.Kind {
	case api.EvPaper:
		v.Entry = readEntry(r)
	case api.EvField:
		v.Seq, v.Index = r.Num(maxSeq), r.Num(maxIndex)
	case api.EvGone:
		v.Seq = r.Num(maxSeq)
	case api.EvHold, api.EvRelease:
		v.Seq, v.Name = r.Num(maxSeq), r.Text(api.MaxName)
	case api.EvPoint:
		v.Point = api.Point{Size: r.Num(api.MaxPapers), Root: r.Text(api.HashBytes)}
	case api.EvClock:
		v.Now = r.Num(api.MaxClock)
	}
	if e := r.End(); e != api.OK {
		return api.Event{}, e
	}
	// The encoding leaves room for names that are none, and for hashes that are too short.
	if !Right(v) {
		return api.Event{}, api.ErrForm
	}
	return v, api.OK
}

// readEntry reads an entry.
func readEntry(r *octet.Reader) api.Entry {
	e := api.Entry{
		ID:    r.Text(api.MaxID),
		Class: r.Num(maxClass),
		Born:  r.Num(api.MaxClock),
		Slot:  r.Num(maxSlot),
		Gone:  r.Flag(),
		Holds: r.Texts(api.MaxHolds, api.MaxName),
	}
	for range r.Num(api.MaxFields) {
		e.Slips = append(e.Slips, readSlip(r))
	}
	return e
}

// readSlip reads a slip.
func readSlip(r *octet.Reader) api.Slip {
	s := api.Slip{Name: r.Text(api.MaxName), Pledge: r.Text(api.HashBytes), Erased: r.Flag()}
	if !s.Erased {
		s.Cipher = r.Text(MaxCipher)
	}
	return s
}
