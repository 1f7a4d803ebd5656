package minimise

import (
	"fmt"
	"slices"
	"testing"

	"threshing/api"
	"threshing/arena"
	"threshing/trail"
)

func lits(l ...api.Lit) api.Clause { return l }

func ids(n ...int64) []int64 { return n }

func plainVar(l api.Lit) int { return int(max(int64(l), -int64(l))) }

// placed is a literal as it stands on the trail.
type placed struct {
	lit    api.Lit
	level  int
	reason int
}

// scene is an arena and a trail, beside what is known of them plainly. What is called by it is held against the chapter's words.
type scene struct {
	t      *testing.T
	a      *arena.Arena
	x      *trail.Trail
	live   map[arena.Ref]api.Clause
	refs   []arena.Ref // of all that were put, in order: the id is the place there, and 1
	row    []placed
	levels int
}

func newScene(t *testing.T, vars int, clauses ...api.Clause) *scene {
	t.Helper()
	s := &scene{t: t, a: arena.New(api.MaxArena), x: mustTrail(t, vars), live: map[arena.Ref]api.Clause{}}
	for _, c := range clauses {
		s.put(c...)
	}
	return s
}

func mustTrail(t *testing.T, vars int) *trail.Trail {
	t.Helper()
	x, e := trail.New(vars)
	if e != api.OK {
		t.Fatal(e)
	}
	return x
}

// put puts a clause, with the next id.
func (s *scene) put(c ...api.Lit) arena.Ref {
	s.t.Helper()
	id := int64(len(s.refs) + 1)
	r, e := s.a.Put(id, c, id%2 == 0, int(id%7))
	if e != api.OK {
		s.t.Fatalf("Put(%v): %d", c, e)
	}
	s.refs = append(s.refs, r)
	s.live[r] = slices.Clone(c)
	return r
}

func (s *scene) kill(r arena.Ref) {
	s.a.Kill(r)
	delete(s.live, r)
}

// decide decides literals, a level each.
func (s *scene) decide(c ...api.Lit) {
	s.t.Helper()
	for _, l := range c {
		if e := s.x.Decide(l); e != api.OK {
			s.t.Fatalf("Decide(%d): %d", l, e)
		}
		s.levels++
		s.row = append(s.row, placed{l, s.levels, trail.None})
	}
}

func (s *scene) assign(l api.Lit, reason int) {
	s.t.Helper()
	if e := s.x.Assign(l, reason); e != api.OK {
		s.t.Fatalf("Assign(%d, %d): %d", l, reason, e)
	}
	s.row = append(s.row, placed{l, s.levels, reason})
}

// by puts literals on the trail, each with the reason behind it: the id of a clause, or 0: None.
func (s *scene) by(pairs ...int) {
	s.t.Helper()
	for i := 0; i < len(pairs); i += 2 {
		reason := trail.None
		if id := pairs[i+1]; id > 0 {
			reason = int(s.refs[id-1])
		}
		s.assign(api.Lit(pairs[i]), reason)
	}
}

// because puts literals on the trail, each the first one of a clause that is put as its reason.
func (s *scene) because(clauses ...api.Clause) {
	s.t.Helper()
	for _, c := range clauses {
		s.assign(c[0], int(s.put(c...)))
	}
}

func (s *scene) back(level int) {
	s.x.Back(level)
	s.levels = min(s.levels, level)
	s.row = slices.DeleteFunc(s.row, func(p placed) bool { return p.level > level })
}

// at is the place of a literal, or -1.
func (s *scene) at(l api.Lit) int {
	return slices.IndexFunc(s.row, func(p placed) bool { return p.lit == l })
}

// levelOf is that of a literal that is false, or -1.
func (s *scene) levelOf(l api.Lit) int {
	if p := s.at(-l); p >= 0 {
		return s.row[p].level
	}
	return -1
}

// told is all that the trail has, told.
func (s *scene) told() string {
	out := fmt.Sprint(s.levels, ":")
	for _, p := range s.row {
		out += fmt.Sprintf(" %d@%d", p.lit, p.level)
		if p.reason != trail.None {
			out += fmt.Sprint("(", s.live[arena.Ref(p.reason)], ")")
		}
	}
	return out
}

// state tells of a clause how many of its literals have no value, as a set, the first of these, and whether one is true.
func (s *scene) state(c api.Clause) (int, api.Lit, bool) {
	n, first := 0, api.Lit(0)
	for i, l := range c {
		switch {
		case s.at(l) >= 0:
			return 0, 0, true
		case s.at(-l) < 0 && !slices.Contains(c[:i], l):
			if n++; n == 1 {
				first = l
			}
		}
	}
	return n, first, false
}

// propagate puts what is unit on the trail, over and over, by the first clause that is; or tells the first one that is false.
func (s *scene) propagate() (arena.Ref, bool) {
	for again := true; again; {
		again = false
		for _, r := range s.refs {
			c, live := s.live[r]
			n, l, right := s.state(c)
			if !live || right || n > 1 {
				continue
			}
			if n == 0 {
				return r, true
			}
			s.assign(l, int(r))
			again = true
		}
	}
	return 0, false
}

// conflicts is where the clauses are that are false.
func (s *scene) conflicts() []arena.Ref {
	var l []arena.Ref
	for _, r := range s.refs {
		c, live := s.live[r]
		if n, _, right := s.state(c); live && !right && n == 0 {
			l = append(l, r)
		}
	}
	return l
}

// others are the literals of the reason of what stands at p but that one itself; false, if the reason is None.
func (s *scene) others(p int) (api.Clause, bool) {
	if s.row[p].reason == trail.None {
		return nil, false
	}
	c := slices.Clone(s.live[arena.Ref(s.row[p].reason)])
	return slices.DeleteFunc(c, func(l api.Lit) bool { return l == s.row[p].lit }), true
}

// plainMay is 'a clause may be made shorter', said plainly.
func (s *scene) plainMay(c api.Clause) bool {
	for i, l := range c {
		if s.at(-l) < 0 || slices.Contains(c[:i], l) || i > 0 && s.levelOf(l) == s.levelOf(c[0]) {
			return false
		}
	}
	return len(c) > 0
}

// plainImplied is which literals that are false are implied by c, along the trail: what a reason has stands ahead of what it made true.
func (s *scene) plainImplied(c api.Clause) map[api.Lit]bool {
	implied := map[api.Lit]bool{}
	for p, y := range s.row {
		others, ok := s.others(p)
		for _, l := range others {
			ok = ok && (slices.Contains(c, l) || implied[l])
		}
		implied[-y.lit] = ok || y.level == 0
	}
	return implied
}

// plainMinimise is P17.1, said plainly.
func (s *scene) plainMinimise(c api.Clause) (api.Clause, api.Errno) {
	if !s.plainMay(c) {
		return nil, 7
	}
	implied := s.plainImplied(c)
	var d api.Clause
	for i, l := range c {
		if i == 0 || !implied[l] {
			d = append(d, l)
		}
	}
	return d, 0
}

// plainShrink is P17.2, said plainly.
func (s *scene) plainShrink(c api.Clause) (api.Clause, api.Errno) {
	if !s.plainMay(c) {
		return nil, 7
	}
	d := slices.Clone(c)
	for level := s.levels; level > 0; level-- {
		if level == s.levelOf(c[0]) {
			continue
		}
		var block api.Clause
		for _, l := range d {
			if s.levelOf(l) == level {
				block = append(block, l)
			}
		}
		if one, ok := s.plainBlock(d, block, level); ok {
			d = slices.DeleteFunc(d, func(l api.Lit) bool { return l != block[0] && slices.Contains(block, l) })
			d[slices.Index(d, block[0])] = one
		}
	}
	return d, 0
}

// plainBlock is the one literal to which a block comes.
func (s *scene) plainBlock(d, block api.Clause, level int) (api.Lit, bool) {
	if len(block) < 2 {
		return 0, false
	}
	now := slices.Clone(block)
	for len(now) > 1 {
		last := slices.MaxFunc(now, func(l, m api.Lit) int { return s.at(-l) - s.at(-m) })
		now = slices.DeleteFunc(now, func(l api.Lit) bool { return l == last })
		others, ok := s.others(s.at(-last))
		if !ok {
			return 0, false
		}
		for _, l := range others {
			of := s.levelOf(l)
			if of == level && !slices.Contains(now, l) {
				now = append(now, l)
			}
			if of != level && of != 0 && !slices.Contains(d, l) {
				return 0, false
			}
		}
	}
	return now[0], true
}

// plainChain is chapter 16's 'a chain for a clause c', said plainly; nil, if there is none.
func (s *scene) plainChain(units []int64, c api.Clause, r arena.Ref) []int64 {
	wanted := map[api.Lit]bool{}
	for _, l := range s.live[r] {
		wanted[l] = true
	}
	var chain []int64
	// From the last one on, as what a reason has stands ahead.
	for p := len(s.row) - 1; p >= 0; p-- {
		y := s.row[p]
		if !wanted[-y.lit] || slices.Contains(c, -y.lit) {
			continue
		}
		if y.level == 0 {
			chain = append(chain, units[plainVar(y.lit)])
			continue
		}
		others, ok := s.others(p)
		if !ok {
			return nil
		}
		for _, l := range others {
			wanted[l] = true
		}
		chain = append(chain, s.a.ID(arena.Ref(y.reason)))
	}
	slices.Reverse(chain)
	return append(chain, s.a.ID(r))
}

// plainFollows tells whether unit propagation comes to a false clause, if c's literals are false.
func plainFollows(clauses []api.Clause, c api.Clause) bool {
	set := map[api.Lit]bool{}
	for _, l := range c {
		set[-l] = true
	}
	for again := true; again; {
		again = false
		for _, d := range clauses {
			left, right := map[api.Lit]bool{}, false
			for _, l := range d {
				right = right || set[l]
				if !set[-l] {
					left[l] = true
				}
			}
			if right || len(left) > 1 {
				continue
			}
			if len(left) == 0 {
				return true
			}
			for l := range left {
				set[l], again = true, true
			}
		}
	}
	return false
}

// minimise holds Minimise against the words. (What it tells of a fault is whole: no Helper is needed, which would take longer than all else.)
func (s *scene) minimise(c api.Clause) (api.Clause, api.Errno) {
	want, f := s.plainMinimise(c)
	got, e := Minimise(s.a, s.x, c)
	if e != f || !slices.Equal(got, want) {
		s.t.Fatalf("Minimise(%v) under %s: %v %d, want %v %d", c, s.told(), got, e, want, f)
	}
	return got, e
}

// shrink holds Shrink against the words.
func (s *scene) shrink(c api.Clause) (api.Clause, api.Errno) {
	want, f := s.plainShrink(c)
	got, e := Shrink(s.a, s.x, c)
	if e != f || !slices.Equal(got, want) {
		s.t.Fatalf("Shrink(%v) under %s: %v %d, want %v %d", c, s.told(), got, e, want, f)
	}
	return got, e
}

// minimises sees that this is what is left.
func (s *scene) minimises(c, want api.Clause) {
	s.t.Helper()
	if got, e := s.minimise(c); e != api.OK || !slices.Equal(got, want) {
		s.t.Errorf("Minimise(%v) under %s: %v %d, want %v", c, s.told(), got, e, want)
	}
}

// shrinks sees that this is what is left.
func (s *scene) shrinks(c, want api.Clause) {
	s.t.Helper()
	if got, e := s.shrink(c); e != api.OK || !slices.Equal(got, want) {
		s.t.Errorf("Shrink(%v) under %s: %v %d, want %v", c, s.told(), got, e, want)
	}
}

// mayNot sees that c may not be made shorter.
func (s *scene) mayNot(c ...api.Lit) {
	s.t.Helper()
	if got, e := s.minimise(c); e != api.ErrState || len(got) > 0 {
		s.t.Errorf("Minimise(%v) under %s: %v %d", c, s.told(), got, e)
	}
	if got, e := s.shrink(c); e != api.ErrState || len(got) > 0 {
		s.t.Errorf("Shrink(%v) under %s: %v %d", c, s.told(), got, e)
	}
}
