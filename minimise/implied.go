package minimise

import (
	"slices"

	"threshing/api"
	"threshing/arena"
	"threshing/trail"
)

// deepest is how deep the closure of impliedBy calls itself: reasons may lead back through the whole trail, and no stack is to be as long.
const deepest = 1000

// What is known of a literal that was asked for.
const (
	no  = iota // also as long as it is being asked for, so that reasons that go round, of a trail that is not right, come to an end
	yes        // it is implied
)

// impliedBy is a function that tells whether a false literal is implied by the clause of these literals. It asks for each literal but once.
func impliedBy(a *arena.Arena, t *trail.Trail, held map[api.Lit]struct{}) func(api.Lit) bool {
	known := map[api.Lit]int{}
	var path api.Clause
	var fill func(l api.Lit, deep int) bool
	// It fills in what is known of l. It may be too deep for that: then it tells false, and path has what led there, the deepest one first and l last.
	fill = func(l api.Lit, deep int) bool {
		known[l] = no
		if levelOf(t, l) == 0 {
			known[l] = yes
			return true
		}
		if deep == deepest {
			path = append(path, l)
			return false
		}
		reason, ok := reasonOf(a, t, l)
		if !ok {
			return true
		}
		for _, other := range reason {
			if _, in := held[other]; in || other == -l {
				continue
			}
			if _, asked := known[other]; !asked && !fill(other, deep+1) {
				path = append(path, l)
				return false
			}
			if known[other] == no {
				return true
			}
		}
		known[l] = yes
		return true
	}
	return func(l api.Lit) bool {
		// What waits is asked for from the last one on, as those ahead of it hang on it.
		for waiting := (api.Clause{l}); len(waiting) > 0; {
			end := len(waiting) - 1
			path = nil
			fill(waiting[end], 0)
			slices.Reverse(path)
			waiting = append(waiting[:end], path...)
		}
		return known[l] == yes
	}
}
