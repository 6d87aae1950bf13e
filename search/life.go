package search

import (
	"slices"

	"foretell/api"
	"foretell/store"
	"foretell/tape"
)

// search of a graph. What it knows are always the first spots of the graph, and what it has gone through the first ones of these, so that numbers tell them.
type search struct {
	graph   api.Graph
	finds   []find // by places
	up      bool
	found   int
	through int
	tape    api.Tape
	lost    api.Store // the keys of spots whose records a crash has taken: what is gone through again is one of these
	again   int
}

// searchOf a graph: it is up, and has an empty tape.
func searchOf(g api.Graph) (*search, api.Errno) {
	finds, e := findsOf(g)
	if e != api.OK {
		return nil, e
	}
	return &search{graph: g, finds: finds, up: true, found: g.Init}, api.OK
}

// do a move.
func (s *search) do(m api.Move) api.Errno {
	if m.Kind == api.Start {
		s.up = true // what the tape tells is known since the crash
		return api.OK
	}
	if !s.up {
		return api.OK
	}
	switch m.Kind {
	case api.Work:
		return s.work(m.Many)
	case api.Save:
		return s.save()
	default:
		return s.crash(m.Many)
	}
}

// work: so many spots more are gone through, if there are as many, and room for their records.
func (s *search) work(many int) api.Errno {
	lost, e := store.All(s.lost)
	if e != api.OK {
		return e
	}
	for ; many > 0 && s.through < s.found; many-- {
		f := s.finds[s.through]
		if len(s.tape.Data)+len(f.record) > api.MaxBytes {
			break
		}
		// Here the record is laid behind the others in place, for tape's Write would copy them all at each spot.
		s.tape.Data = append(s.tape.Data, f.record...)
		s.through++
		s.found += f.fresh
		if isIn(lost, f.key) {
			s.again++
		}
	}
	return api.OK
}

// save: what is on the tape is synced.
func (s *search) save() api.Errno {
	synced, e := tape.Sync(s.tape)
	if e != api.OK {
		return e
	}
	s.tape = synced
	return api.OK
}

// crash: of what is not synced so many bytes stay, and of these the records that are whole.
func (s *search) crash(keep int) api.Errno {
	left, e := tape.Crash(s.tape, keep)
	if e != api.OK {
		return e
	}
	if left, e = tape.Repair(left); e != api.OK {
		return e
	}
	s.tape, s.up = left, false
	was := s.through
	if e := s.recall(); e != api.OK {
		return e
	}
	return s.lose(s.finds[s.through:was])
}

// recall what the tape tells, and no more.
func (s *search) recall() api.Errno {
	records, _, e := tape.Read(s.tape)
	if e != api.OK {
		return e
	}
	s.through, s.found = len(records), s.graph.Init
	for _, record := range records {
		s.found += len(record) - 1 // all but the spot's own place are new ones
	}
	return api.OK
}

// lose what was found: the keys of these spots are kept. Those that were lost before are passed by, for the store goes through all its keys whenever it is asked.
func (s *search) lose(finds []find) api.Errno {
	before, e := store.All(s.lost)
	if e != api.OK {
		return e
	}
	for _, f := range finds {
		if isIn(before, f.key) {
			continue
		}
		if s.lost, _, e = store.Add(s.lost, f.key); e != api.OK {
			return e
		}
	}
	return api.OK
}

// isIn: is a key in a list that rises?
func isIn(keys []int, key int) bool {
	_, found := slices.BinarySearch(keys, key)
	return found
}
