package search

import (
	"threshing/api"
	"threshing/arena"
	"threshing/average"
	"threshing/cnf"
	"threshing/reduce"
)

const (
	firstChange = 1000 // at so many conflicts the mode changes first
	leastBehind = 2    // so many conflicts at least lie between two restarts of the focused mode
	wasteOf     = 4    // the arena is collected when so great a part of it is waste
)

// mode is how a search goes about it, for a while or all the time.
type mode struct {
	again func() bool        // is it to restart?
	next  func() (int, bool) // which variable is decided?
	bump  func(seen []int)   // these variables were seen in a conflict
	other func() mode        // what it changes to
}

func (s *search) stable() mode {
	return mode{s.ringing, s.scores.next, s.scores.bump, s.focused}
}

func (s *search) focused() mode {
	return mode{s.worse, s.line.next, s.line.bump, s.stable}
}

// ringing tells whether the bell rang.
func (s *search) ringing() bool { return s.rang }

// worse tells whether what was learnt lately is worse than what was learnt for long.
func (s *search) worse() bool {
	return s.result.Conflicts-s.began >= leastBehind && average.Above(s.fast, s.slow, s.options.Margin)
}

// limits are the numbers of conflicts at which something is done, for the first time, the second, ..
type limits struct{ first, done int64 }

// come tells whether the next one is come to. (Behind the last one that there is, none is.)
func (l limits) come(conflicts int64) bool {
	at, e := reduce.Limit(l.first, l.done+1)
	return e == api.OK && conflicts >= at
}

// changing tells whether the mode is to change.
func (s *search) changing() bool {
	return s.options.Mode == byTurns && s.changes.come(s.result.Conflicts)
}

// due tells whether turn has anything to do.
func (s *search) due() bool {
	n := s.result.Conflicts
	return s.reductions.come(n) || s.turns.come(n) || s.changing() || s.mode.again()
}

// turn goes back to level 0, and does what is due.
func (s *search) turn() api.Errno {
	s.back(0)
	n := s.result.Conflicts
	if s.reductions.come(n) {
		s.reductions.done++
		if e := s.reduce(); e != api.OK {
			return e
		}
	}
	if s.turns.come(n) {
		s.turns.done++
		s.phases.Turn()
		s.reached = 0
		s.result.Rephased++
	}
	if s.mode.again() {
		s.restarted()
		s.result.Restarts++
	}
	if s.changing() {
		s.changes.done++
		s.mode = s.mode.other()
		s.restarted()
	}
	return api.OK
}

// restarted lets no restart be due, till there is more reason.
func (s *search) restarted() {
	s.began = s.result.Conflicts
	s.rang = false
}

// reduce lets redundant clauses go.
func (s *search) reduce() api.Errno {
	ids, _ := reduce.Choose(s.records(), s.options.Glue, s.options.Part)
	for _, id := range ids {
		if e := s.base.Delete(id); e != api.OK {
			return e
		}
		s.arena.Kill(s.places[id])
		delete(s.places, id)
	}
	if len(ids) > 0 {
		s.result.Reduced++
		s.collect()
	}
	return api.OK
}

// records tells of the redundant clauses, and counts their use anew.
func (s *search) records() []reduce.Record {
	locked := map[arena.Ref]struct{}{}
	for _, l := range s.trail.Lits() {
		locked[arena.Ref(s.trail.Reason(cnf.Var(l)))] = struct{}{}
	}
	var l []reduce.Record
	for _, r := range s.arena.Refs() {
		id := s.arena.ID(r)
		if _, may := s.places[id]; !may {
			continue
		}
		lbd, used := s.arena.LBD(r)
		_, holds := locked[r]
		l = append(l, reduce.Record{ID: id, LBD: lbd, Size: s.arena.Len(r), Used: used, Locked: holds})
		s.arena.Mark(r, lbd, 0)
	}
	return l
}

// collect puts the arena together again, if there is much waste.
func (s *search) collect() {
	words, waste := s.arena.Words()
	if waste*wasteOf < words {
		return
	}
	moves := s.arena.Collect()
	s.watch.Moved(moves)
	for _, m := range moves {
		id := s.arena.ID(m.To)
		if _, there := s.places[id]; there {
			s.places[id] = m.To
		}
	}
}
