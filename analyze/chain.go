package analyze

import (
	"maps"
	"slices"

	"threshing/api"
	"threshing/arena"
	"threshing/cnf"
	"threshing/trail"
)

// deepest is how deep the closure of wanted calls itself. What lies deeper waits for a turn of its own: reasons may lead back through the whole trail, and no stack is to be as long.
const deepest = 1000

// Chain: P16.3.
func Chain(a *arena.Arena, t *trail.Trail, units []int64, c api.Clause, conflict arena.Ref) ([]int64, api.Errno) {
	wrong, e := falseClause(a, t, conflict)
	if e != api.OK {
		return nil, e
	}
	source := func(v int) (int64, api.Clause) { return sourceOf(a, t, units, v) }
	ids, ok := wanted(t, source, c, wrong)
	if !ok {
		return nil, api.ErrReason
	}
	chain := make([]int64, 0, len(ids)+1)
	for _, place := range slices.Sorted(maps.Keys(ids)) {
		chain = append(chain, ids[place])
	}
	return append(chain, a.ID(conflict)), api.OK
}

// sourceOf is the id of the clause that made the variable v true or false, and that clause, but of level 0 its unit's id alone. The id is not above 0, if there is none.
func sourceOf(a *arena.Arena, t *trail.Trail, units []int64, v int) (int64, api.Clause) {
	if t.Level(v) == 0 {
		if v < len(units) {
			return units[v], nil
		}
		return 0, nil
	}
	r := arena.Ref(t.Reason(v))
	return a.ID(r), a.Lits(r)
}

// wanted is the ids of all that is wanted for c, by the places on the trail; false, if something that is wanted has none.
func wanted(t *trail.Trail, source func(v int) (int64, api.Clause), c, conflict api.Clause) (map[int]int64, bool) {
	given := map[api.Lit]struct{}{}
	for _, l := range c {
		given[l] = struct{}{}
	}
	ids := map[int]int64{}
	waiting := slices.Clone(conflict)
	var want func(l api.Lit, deep int) bool
	// It is handed literals that are false: their negations are wanted, unless c has them.
	want = func(l api.Lit, deep int) bool {
		v := cnf.Var(l)
		_, known := ids[t.Place(v)]
		if _, held := given[l]; known || held {
			return true
		}
		if deep == deepest {
			waiting = append(waiting, l)
			return true
		}
		id, reason := source(v)
		if id < 1 {
			return false
		}
		ids[t.Place(v)] = id
		// The reason has the literal itself, too, of which the id is known now.
		for _, other := range reason {
			if !want(other, deep+1) {
				return false
			}
		}
		return true
	}
	for len(waiting) > 0 {
		end := len(waiting) - 1
		l := waiting[end]
		waiting = waiting[:end]
		if !want(l, 0) {
			return nil, false
		}
	}
	return ids, true
}
