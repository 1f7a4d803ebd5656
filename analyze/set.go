package analyze

import (
	"cmp"
	"container/heap"
	"maps"
	"slices"

	"threshing/api"
	"threshing/cnf"
	"threshing/trail"
)

// set is the set of which a clause is learnt. It has the literals that are false, as they stand in clauses: they are what is learnt, and their negations are on the trail.
type set struct {
	trail *trail.Trail
	seen  map[int]struct{} // the variables that were ever in it
	now   row              // what it has of the level now
	below api.Clause       // what it has of lower levels, which never goes out
}

func newSet(t *trail.Trail) *set {
	return &set{trail: t, seen: map[int]struct{}{}, now: row{compare: later(t)}}
}

// later compares literals: the one whose variable stands later on the trail first.
func later(t *trail.Trail) func(a, b api.Lit) int {
	return func(a, b api.Lit) int {
		return cmp.Compare(t.Place(cnf.Var(b)), t.Place(cnf.Var(a)))
	}
}

// take takes in literals that are false. What was in it never comes again: so the literal that has this clause as its reason is left out, and what is not right comes to an end.
func (s *set) take(c api.Clause) {
	for _, l := range c {
		v := cnf.Var(l)
		level := s.trail.Level(v)
		if _, seen := s.seen[v]; seen || level < 1 {
			continue
		}
		s.seen[v] = struct{}{}
		if level == s.trail.Levels() {
			heap.Push(&s.now, l)
		} else {
			s.below = append(s.below, l)
		}
	}
}

// learned is what is learnt, when one literal of the level now is left.
func (s *set) learned() Learned {
	slices.SortFunc(s.below, s.now.compare)
	l := Learned{Lits: append(s.now.lits, s.below...), Seen: slices.Sorted(maps.Keys(s.seen))}
	// Levels rise along the trail: of those below none is above the first one's.
	if len(s.below) > 0 {
		l.Level = s.trail.Level(cnf.Var(s.below[0]))
	}
	l.LBD = LBD(s.trail, l.Lits)
	return l
}

// row is literals as container/heap keeps them: the one that stands last on the trail comes first.
type row struct {
	lits    api.Clause
	compare func(a, b api.Lit) int
}

// Len is container/heap's.
func (r *row) Len() int { return len(r.lits) }

// Less is container/heap's.
func (r *row) Less(i, j int) bool { return r.compare(r.lits[i], r.lits[j]) < 0 }

// Swap is container/heap's.
func (r *row) Swap(i, j int) { r.lits[i], r.lits[j] = r.lits[j], r.lits[i] }

// Push is container/heap's.
func (r *row) Push(x any) {
	if l, ok := x.(api.Lit); ok {
		r.lits = append(r.lits, l)
	}
}

// Pop is container/heap's.
func (r *row) Pop() any {
	end := len(r.lits) - 1
	l := r.lits[end]
	r.lits = r.lits[:end]
	return l
}
