package analyze

import (
	"fmt"
	"slices"
	"testing"

	"threshing/api"
	"threshing/arena"
	"threshing/trail"
)

func lits(l ...api.Lit) api.Clause { return l }

func ids(n ...int64) []int64 { return n }

func plainVar(l api.Lit) int { return int(max(int64(l), -int64(l))) }

// placed is a literal as it stands on the trail.
type placed struct {
	lit    api.Lit
	level  int
	reason int
}

// scene is an arena and a trail, beside what is known of them plainly. What is called by it is held against the chapter's words.
type scene struct {
	t      *testing.T
	a      *arena.Arena
	x      *trail.Trail
	live   map[arena.Ref]api.Clause
	ids    map[arena.Ref]int64
	refs   []arena.Ref // of all that were put, in order
	row    []placed
	levels int
}

func newScene(t *testing.T, vars int, clauses ...api.Clause) *scene {
	t.Helper()
	x, e := trail.New(vars)
	if e != api.OK {
		t.Fatal(e)
	}
	s := &scene{t: t, a: arena.New(api.MaxArena), x: x, live: map[arena.Ref]api.Clause{}, ids: map[arena.Ref]int64{}}
	for _, c := range clauses {
		s.put(c...)
	}
	return s
}

// put puts a clause, with the next id.
func (s *scene) put(c ...api.Lit) arena.Ref {
	s.t.Helper()
	id := int64(len(s.refs) + 1)
	r, e := s.a.Put(id, c, id%2 == 0, int(id%7))
	if e != api.OK {
		s.t.Fatalf("Put(%v): %d", c, e)
	}
	s.refs = append(s.refs, r)
	s.live[r], s.ids[r] = slices.Clone(c), id
	return r
}

func (s *scene) kill(r arena.Ref) {
	s.a.Kill(r)
	delete(s.live, r)
}

func (s *scene) decide(l api.Lit) {
	s.t.Helper()
	if e := s.x.Decide(l); e != api.OK {
		s.t.Fatalf("Decide(%d): %d", l, e)
	}
	s.levels++
	s.row = append(s.row, placed{l, s.levels, trail.None})
}

func (s *scene) assign(l api.Lit, reason int) {
	s.t.Helper()
	if e := s.x.Assign(l, reason); e != api.OK {
		s.t.Fatalf("Assign(%d, %d): %d", l, reason, e)
	}
	s.row = append(s.row, placed{l, s.levels, reason})
}

// by puts literals on the trail, each with the reason behind it: the number of a clause, in the order in which they were put, from 1 on; or 0: None.
func (s *scene) by(pairs ...int) {
	s.t.Helper()
	for i := 0; i < len(pairs); i += 2 {
		reason := trail.None
		if n := pairs[i+1]; n > 0 {
			reason = int(s.refs[n-1])
		}
		s.assign(api.Lit(pairs[i]), reason)
	}
}

func (s *scene) back(level int) {
	s.x.Back(level)
	s.levels = min(s.levels, level)
	s.row = slices.DeleteFunc(s.row, func(p placed) bool { return p.level > level })
}

// at is the place of a literal, or -1.
func (s *scene) at(l api.Lit) int {
	return slices.IndexFunc(s.row, func(p placed) bool { return p.lit == l })
}

// value is 1, 0 or -1.
func (s *scene) value(l api.Lit) int {
	switch {
	case s.at(l) >= 0:
		return 1
	case s.at(-l) >= 0:
		return -1
	}
	return 0
}

// state tells of a clause how many of its literals have no value, as a set, the first of these, and whether one is true.
func (s *scene) state(c api.Clause) (int, api.Lit, bool) {
	n, first := 0, api.Lit(0)
	for i, l := range c {
		switch {
		case s.value(l) == 1:
			return 0, 0, true
		case s.value(l) == 0 && !slices.Contains(c[:i], l):
			if n++; n == 1 {
				first = l
			}
		}
	}
	return n, first, false
}

// propagate puts what is unit on the trail, over and over, by the first clause that is; or tells the first one that is false.
func (s *scene) propagate() (arena.Ref, bool) {
	for again := true; again; {
		again = false
		for _, r := range s.refs {
			c, live := s.live[r]
			n, l, right := s.state(c)
			if !live || right || n > 1 {
				continue
			}
			if n == 0 {
				return r, true
			}
			s.assign(l, int(r))
			again = true
		}
	}
	return 0, false
}

// conflicts is where the clauses are that are false.
func (s *scene) conflicts() []arena.Ref {
	var l []arena.Ref
	for _, r := range s.refs {
		c, live := s.live[r]
		if n, _, right := s.state(c); live && !right && n == 0 {
			l = append(l, r)
		}
	}
	return l
}

// told is all that the trail has, told.
func (s *scene) told() string {
	out := fmt.Sprint(s.levels, ":")
	for _, p := range s.row {
		out += fmt.Sprintf(" %d@%d:%d", p.lit, p.level, p.reason)
	}
	return out
}

// plainPlaces is the places on the trail of the negations of c's literals but one; false, if one is not there.
func (s *scene) plainPlaces(c api.Clause, but api.Lit) ([]int, bool) {
	var l []int
	for _, x := range c {
		if x == but {
			continue
		}
		p := s.at(-x)
		if p < 0 {
			return nil, false
		}
		l = append(l, p)
	}
	return l, true
}

// plainLearn is 'what is learnt of a conflict', said plainly, and P16.1's errors.
func (s *scene) plainLearn(r arena.Ref) (Learned, api.Errno) {
	c, live := s.live[r]
	if !live {
		return Learned{}, 91
	}
	from, right := s.plainPlaces(c, 0)
	if !right || s.levels == 0 {
		return Learned{}, 7
	}
	set, vars := map[int]bool{}, map[int]bool{}
	take := func(places []int) {
		for _, p := range places {
			if s.row[p].level != 0 {
				set[p], vars[plainVar(s.row[p].lit)] = true, true
			}
		}
	}
	take(from)
	last := -1
	for {
		count := 0
		last = -1
		for p := range set {
			if s.row[p].level == s.levels {
				count++
				last = max(last, p)
			}
		}
		if count == 0 || count > 1 && s.row[last].reason == trail.None {
			return Learned{}, 7
		}
		if count == 1 {
			break
		}
		delete(set, last)
		more, _ := s.plainPlaces(s.live[arena.Ref(s.row[last].reason)], s.row[last].lit)
		take(more)
	}
	return s.plainLearned(set, vars, last), 0
}

// plainLearned is the clause of such a set, in which the one of the level now stands at first.
func (s *scene) plainLearned(set, vars map[int]bool, first int) Learned {
	l := Learned{Lits: lits(-s.row[first].lit)}
	for p := len(s.row) - 1; p >= 0; p-- {
		if set[p] && p != first {
			l.Lits = append(l.Lits, -s.row[p].lit)
			l.Level = max(l.Level, s.row[p].level)
		}
	}
	for v := 1; v <= s.x.Vars(); v++ {
		if vars[v] {
			l.Seen = append(l.Seen, v)
		}
	}
	l.LBD = s.plainLBD(l.Lits)
	return l
}

// plainLBD goes through the levels one by one.
func (s *scene) plainLBD(c api.Clause) int {
	n := 0
	for level := 0; level <= s.levels; level++ {
		for _, p := range s.row {
			if p.level == level && (slices.Contains(c, p.lit) || slices.Contains(c, -p.lit)) {
				n++
				break
			}
		}
	}
	return min(n, 65535)
}

// plainChain is 'a chain for a clause c', said plainly, and P16.3's errors.
func (s *scene) plainChain(units []int64, c api.Clause, r arena.Ref) ([]int64, api.Errno) {
	bad, live := s.live[r]
	if !live {
		return nil, 91
	}
	from, right := s.plainPlaces(bad, 0)
	if !right {
		return nil, 7
	}
	wanted, got := map[int]bool{}, map[int]int64{}
	want := func(places []int) {
		for _, p := range places {
			wanted[p] = wanted[p] || !slices.Contains(c, -s.row[p].lit)
		}
	}
	want(from)
	for again := true; again; {
		again = false
		for p, y := range s.row {
			if got[p] > 0 || !wanted[p] {
				continue
			}
			again = true
			v := plainVar(y.lit)
			switch {
			case y.level == 0 && (v >= len(units) || units[v] <= 0), y.level > 0 && y.reason == trail.None:
				return nil, 160
			case y.level == 0:
				got[p] = units[v]
			default:
				got[p] = s.ids[arena.Ref(y.reason)]
				more, _ := s.plainPlaces(s.live[arena.Ref(y.reason)], y.lit)
				want(more)
			}
		}
	}
	var chain []int64
	for p := range s.row {
		if got[p] > 0 {
			chain = append(chain, got[p])
		}
	}
	return append(chain, s.ids[r]), 0
}

// learn holds Learn against the words.
func (s *scene) learn(r arena.Ref) (Learned, api.Errno) {
	s.t.Helper()
	want, f := s.plainLearn(r)
	got, e := Learn(s.a, s.x, r)
	if e != f || fmt.Sprint(got) != fmt.Sprint(want) {
		s.t.Fatalf("Learn(%d) of %v under %s: %v %d, want %v %d", r, s.live[r], s.told(), got, e, want, f)
	}
	return got, e
}

// chain holds Chain against the words.
func (s *scene) chain(units []int64, c api.Clause, r arena.Ref) ([]int64, api.Errno) {
	s.t.Helper()
	want, f := s.plainChain(units, c, r)
	got, e := Chain(s.a, s.x, units, c, r)
	if e != f || !slices.Equal(got, want) {
		s.t.Fatalf("Chain(%v, %v, %d) of %v under %s: %v %d, want %v %d", units, c, r, s.live[r], s.told(), got, e, want, f)
	}
	return got, e
}

// lbd holds LBD against the words.
func (s *scene) lbd(c api.Clause) int {
	s.t.Helper()
	got := LBD(s.x, c)
	if want := s.plainLBD(c); got != want {
		s.t.Fatalf("LBD(%v) under %s: %d, want %d", c, s.told(), got, want)
	}
	return got
}

// learns sees that this is learnt.
func (s *scene) learns(r arena.Ref, want Learned) {
	s.t.Helper()
	got, e := s.learn(r)
	if g, w := fmt.Sprint(got, int(e)), fmt.Sprint(want, 0); g != w {
		s.t.Errorf("Learn(%d) of %v under %s: %s, want %s", r, s.live[r], s.told(), g, w)
	}
}

// learnsNot sees that this is the error.
func (s *scene) learnsNot(r arena.Ref, want api.Errno) {
	s.t.Helper()
	if got, e := s.learn(r); e != want {
		s.t.Errorf("Learn(%d) of %v under %s: %v %d, want %d", r, s.live[r], s.told(), got, e, want)
	}
}

// chains sees that this is the chain, or the error.
func (s *scene) chains(units []int64, c api.Clause, r arena.Ref, want []int64, f api.Errno) {
	s.t.Helper()
	if got, e := s.chain(units, c, r); !slices.Equal(got, want) || e != f {
		s.t.Errorf("Chain(%v, %v, %d) of %v under %s: %v %d, want %v %d", units, c, r, s.live[r], s.told(), got, e, want, f)
	}
}
