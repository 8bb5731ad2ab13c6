package state

import (
	"slices"

	"chartulary/api"
	"chartulary/event"
)

// Check is the error with which an event is rejected.
func (s *State) Check(v api.Event) api.Errno {
	switch {
	case !s.works():
		return api.ErrState
	case !event.Right(v):
		return api.ErrForm
	}
	switch v.Kind {
	case api.EvPaper:
		return s.checkPaper(v.Entry)
	case api.EvPoint:
		return s.checkPoint(v.Point)
	case api.EvClock:
		return s.checkClock(v.Now)
	}
	if v.Seq >= len(s.entries) {
		return api.ErrNone
	}
	return checkChange(s.entries[v.Seq], v)
}

// checkPaper is the error with which a paper is rejected.
func (s *State) checkPaper(e api.Entry) api.Errno {
	_, twice := s.seqs[e.ID]
	switch {
	case twice:
		return api.ErrTwice
	case len(s.entries) >= api.MaxPapers:
		return api.ErrFull
	case e.Born > s.now:
		return api.ErrClock
	case !e.Gone && slices.Contains(s.Used(), e.Slot):
		return api.ErrThere
	}
	return api.OK
}

// checkPoint is the error with which a checkpoint is rejected.
func (s *State) checkPoint(p api.Point) api.Errno {
	last := len(s.points) - 1
	if p.Size > len(s.entries) || last >= 0 && p.Size < s.points[last].Size {
		return api.ErrSize
	}
	return api.OK
}

// checkClock is the error with which a time is rejected.
func (s *State) checkClock(now int) api.Errno {
	if now < s.now {
		return api.ErrClock
	}
	return api.OK
}

// checkChange is the error with which an event is rejected that changes e.
func checkChange(e api.Entry, v api.Event) api.Errno {
	switch v.Kind {
	case api.EvField:
		return checkField(e, v.Index)
	case api.EvGone:
		return checkGone(e)
	case api.EvHold:
		return checkHold(e, v.Name)
	}
	if !slices.Contains(e.Holds, v.Name) {
		return api.ErrName
	}
	return api.OK
}

// checkField is the error because of which the slip at index can't be erased.
func checkField(e api.Entry, index int) api.Errno {
	switch {
	case index >= len(e.Slips):
		return api.ErrName
	case e.Slips[index].Erased:
		return api.ErrErased
	case len(e.Holds) > 0:
		return api.ErrHeld
	}
	return api.OK
}

// checkGone is the error because of which e can't be made gone.
func checkGone(e api.Entry) api.Errno {
	switch {
	case e.Gone:
		return api.ErrErased
	case len(e.Holds) > 0:
		return api.ErrHeld
	}
	return api.OK
}

// checkHold is the error because of which e can't be held.
func checkHold(e api.Entry, name string) api.Errno {
	switch {
	case e.Gone:
		return api.ErrErased
	case slices.Contains(e.Holds, name):
		return api.ErrTwice
	case len(e.Holds) >= api.MaxHolds:
		return api.ErrFull
	}
	return api.OK
}

// Apply applies an event, unless it is rejected.
func (s *State) Apply(v api.Event) api.Errno {
	if err := s.Check(v); err != api.OK {
		return err
	}
	switch v.Kind {
	case api.EvPaper:
		s.seqs[v.Entry.ID] = len(s.entries)
		s.entries = append(s.entries, event.Clean(v).Entry)
	case api.EvPoint:
		s.points = append(s.points, v.Point)
	case api.EvClock:
		s.now = v.Now
	default:
		change(&s.entries[v.Seq], v)
	}
	s.events++
	return api.OK
}

// change applies an event to the paper that it is about.
func change(e *api.Entry, v api.Event) {
	switch v.Kind {
	case api.EvField:
		erase(&e.Slips[v.Index])
	case api.EvGone:
		e.Gone = true
		for i := range e.Slips {
			erase(&e.Slips[i])
		}
	case api.EvHold:
		e.Holds = append(e.Holds, v.Name)
		slices.Sort(e.Holds)
	case api.EvRelease:
		e.Holds = slices.DeleteFunc(e.Holds, func(name string) bool { return name == v.Name })
	}
}

// erase leaves of a slip its name and its pledge.
func erase(s *api.Slip) {
	s.Erased = true
	s.Cipher = ""
}
