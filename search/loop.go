package search

import (
	"threshing/analyze"
	"threshing/api"
	"threshing/arena"
	"threshing/average"
	"threshing/base"
	"threshing/cnf"
	"threshing/minimise"
	"threshing/phase"
	"threshing/trail"
	"threshing/watch"
)

// most is the greatest LBD, and the greatest use, for which an arena has room.
const most = 65535

// search is one of them, under way.
type search struct {
	options Options
	result  Result

	base   *base.Base
	arena  *arena.Arena
	trail  *trail.Trail
	watch  *watch.Watch
	places map[int64]arena.Ref // by their ids: where the redundant clauses begin that may go
	units  []int64             // by variable: the id of a unit clause of it, or 0

	settled int // how many literals of level 0 have their unit clauses
	free    int // how many literals of the trail were there when no clause was false last
	reached int // how long the target row of the phases is

	phases *phase.Phases
	scores *scores
	line   *line
	mode   mode

	fast, slow *average.Average // of the LBDs
	bell       *average.Bell
	rang       bool  // has it, since the last restart?
	began      int64 // at how many conflicts that was

	reductions, turns, changes limits
}

// newSearch is one over a base, in an arena of so many words. The options are right, and so is the number of variables: nothing of this fails.
func newSearch(b *base.Base, o Options, words int) *search {
	n := b.Vars()
	s := &search{
		options: o,
		base:    b,
		arena:   arena.New(words),
		places:  map[int64]arena.Ref{},
		units:   make([]int64, n+1),

		reductions: limits{first: o.Reduce},
		turns:      limits{first: o.Rephase},
		changes:    limits{first: firstChange},
	}
	s.trail, _ = trail.New(n)
	s.watch, _ = watch.New(s.arena, s.trail)
	s.phases, _ = phase.New(n, o.Phase, o.Seed)
	s.fast, _ = average.New(o.Fast)
	s.slow, _ = average.New(o.Slow)
	s.bell, _ = average.NewBell(o.Restart)
	s.scores = newScores(s.trail)
	s.line = newLine(s.trail)
	s.mode = s.stable()
	if o.Mode == focusedMode {
		s.mode = s.focused()
	}
	return s
}

// run searches to the end.
func (s *search) run() api.Errno {
	conflict, bad, e := s.load()
	if e != api.OK {
		return e
	}
	if !bad {
		conflict, bad = s.watch.Propagate()
	}
	for {
		done, e := s.step(conflict, bad)
		if done || e != api.OK {
			s.result.Ticks = s.watch.Ticks()
			return e
		}
		conflict, bad = s.watch.Propagate()
	}
}

// load puts the clauses into the arena. Units come onto the trail behind all others, so that no literal of these is false when they are attached. It tells the clause that is false then, if there is one.
func (s *search) load() (arena.Ref, bool, api.Errno) {
	var short []arena.Ref
	for _, c := range s.base.Entries() {
		lits, both := cnf.Normal(c.Lits)
		if both {
			continue
		}
		r, e := s.put(c.ID, lits, c.Red, min(len(lits), most))
		if e != api.OK {
			return 0, false, e
		}
		if len(lits) > 1 {
			s.watch.Attach(r)
		} else {
			short = append(short, r)
		}
	}
	for _, r := range short {
		l := s.arena.Lit(r, 0)
		switch {
		case l == 0 || s.trail.Value(l) < 0:
			return r, true, api.OK
		case s.trail.Value(l) == 0:
			s.unit(l, s.arena.ID(r))
		}
	}
	return 0, false, api.OK
}

// put puts a clause into the arena. One of fewer than two literals stays, even if it is redundant: chains are made with its id.
func (s *search) put(id int64, c api.Clause, red bool, lbd int) (arena.Ref, api.Errno) {
	r, e := s.arena.Put(id, c, red, lbd)
	if e != api.OK {
		return 0, api.ErrLimit
	}
	if red && len(c) > 1 {
		s.places[id] = r
	}
	return r, api.OK
}

// unit puts a literal on the trail, at level 0, of which there is a unit clause.
func (s *search) unit(l api.Lit, id int64) {
	s.units[cnf.Var(l)] = id
	s.trail.Assign(l, trail.None)
}

// step does what is to be done behind a propagation, by which the clause at conflict is false, if bad. It tells whether the search is at its end.
func (s *search) step(conflict arena.Ref, bad bool) (bool, api.Errno) {
	if e := s.settle(); e != api.OK {
		return false, e
	}
	if bad {
		s.result.Conflicts++
		if s.trail.Levels() == 0 {
			return true, s.refute(conflict)
		}
		return false, s.learn(conflict)
	}
	s.free = s.trail.Len()
	switch {
	case s.free == s.trail.Vars():
		s.result.Verdict = api.Sat
		s.result.Model, _ = s.trail.Model()
		return true, api.OK
	case s.spent():
		return true, api.OK
	case s.due():
		return false, s.turn()
	}
	s.decide()
	return false, api.OK
}

// settle gives the literals of level 0 their unit clauses, so that no chain leads through their reasons again.
func (s *search) settle() api.Errno {
	if s.trail.Levels() > 0 || s.trail.Len() == s.settled {
		return api.OK
	}
	for _, l := range s.trail.Lits()[s.settled:] {
		v := cnf.Var(l)
		if s.units[v] != 0 {
			continue
		}
		id, e := s.base.Add(api.Clause{l}, s.chain(l), false)
		if e != api.OK {
			return e
		}
		s.units[v] = id
	}
	s.settled = s.trail.Len()
	return api.OK
}

// chain is the hints by which a literal of level 0 follows.
func (s *search) chain(l api.Lit) []int64 {
	var hints []int64
	r := arena.Ref(s.trail.Reason(cnf.Var(l)))
	for _, other := range s.arena.Lits(r) {
		if other != l {
			hints = append(hints, s.units[cnf.Var(other)])
		}
	}
	return append(hints, s.arena.ID(r))
}

// refute adds the empty clause.
func (s *search) refute(conflict arena.Ref) api.Errno {
	s.result.Verdict = api.Unsat
	hints, _ := analyze.Chain(s.arena, s.trail, s.units, nil, conflict)
	_, e := s.base.Add(nil, hints, false)
	return e
}

// learn adds what a conflict teaches, and goes back to where that is unit. (Were it not learnt rightly, the base would not take it.)
func (s *search) learn(conflict arena.Ref) api.Errno {
	what, _ := analyze.Learn(s.arena, s.trail, conflict)
	c := s.shorten(what.Lits)
	hints, _ := analyze.Chain(s.arena, s.trail, s.units, c, conflict)
	id, e := s.base.Add(c, hints, len(c) > 1)
	if e != api.OK {
		return e
	}
	s.use(hints)
	s.mode.bump(what.Seen)
	lbd := analyze.LBD(s.trail, c)
	s.count(lbd)
	s.back(s.greatest(c[1:]))
	return s.enter(id, c, lbd)
}

// shorten makes a learnt clause shorter, as the options have it.
func (s *search) shorten(c api.Clause) api.Clause {
	if s.options.Minimise {
		c, _ = minimise.Minimise(s.arena, s.trail, c)
	}
	if s.options.Shrink {
		c, _ = minimise.Shrink(s.arena, s.trail, c)
	}
	return c
}

// use counts the use of the redundant clauses among hints.
func (s *search) use(hints []int64) {
	for _, id := range hints {
		if r, there := s.places[id]; there {
			lbd, used := s.arena.LBD(r)
			s.arena.Mark(r, lbd, min(used+1, most))
		}
	}
}

// count takes in a conflict, by the LBD of what was learnt, for the restarts to come.
func (s *search) count(lbd int) {
	s.fast.Add(int64(lbd))
	s.slow.Add(int64(lbd))
	if s.bell.Tick() {
		s.rang = true
	}
}

// greatest is the greatest level of c's literals, or 0.
func (s *search) greatest(c api.Clause) int {
	level := 0
	for _, l := range c {
		level = max(level, s.trail.Level(cnf.Var(l)))
	}
	return level
}

// back goes back to a level. The phases are told which values there were, and how far the trail came without a conflict.
func (s *search) back(level int) {
	if s.free > s.reached {
		s.phases.Reach(s.trail.Lits()[:s.free])
		s.reached = s.free
	}
	gone, _ := s.trail.Back(level)
	s.phases.Save(gone)
	s.scores.back(gone)
	s.line.back(gone)
	s.free = min(s.free, s.trail.Len())
}

// enter puts the literal of a learnt clause on the trail, which is unit now.
func (s *search) enter(id int64, c api.Clause, lbd int) api.Errno {
	if len(c) == 1 {
		s.unit(c[0], id)
		return api.OK
	}
	r, e := s.put(id, c, true, lbd)
	if e != api.OK {
		return e
	}
	l, _ := s.watch.Attach(r)
	s.trail.Assign(l, int(r))
	return api.OK
}

// spent tells whether a budget is used up.
func (s *search) spent() bool {
	return over(s.result.Conflicts, s.options.Conflicts) || over(s.watch.Ticks(), s.options.Ticks)
}

// over tells whether there was as much as a budget has. (0 is none.)
func over(n, budget int64) bool { return budget > 0 && n >= budget }

// decide decides a variable without a value.
func (s *search) decide() {
	v, _ := s.mode.next()
	l := api.Lit(v)
	if value, _ := s.phases.Decide(v); !value {
		l = -l
	}
	s.trail.Decide(l)
	s.result.Decisions++
}
