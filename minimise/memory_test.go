package minimise

import (
	"fmt"
	"slices"
	"testing"

	"threshing/api"
	"threshing/arena"
	"threshing/trail"
)

// calls are both.
func calls() []func(*arena.Arena, *trail.Trail, api.Clause) (api.Clause, api.Errno) {
	return []func(*arena.Arena, *trail.Trail, api.Clause) (api.Clause, api.Errno){Minimise, Shrink}
}

// kept is all that an arena and a trail tell.
func kept(s *scene) string {
	out := fmt.Sprintln(s.x.Lits(), s.x.Levels(), s.x.Vars(), s.x.Len())
	for v := range s.x.Vars() + 1 {
		out += fmt.Sprintln(v, s.x.Level(v), s.x.Reason(v), s.x.Place(v))
	}
	words, waste := s.a.Words()
	out += fmt.Sprintln(words, waste, s.a.Refs())
	for _, r := range s.a.Refs() {
		lbd, used := s.a.LBD(r)
		out += fmt.Sprintln(r, s.a.Lits(r), s.a.ID(r), s.a.Red(r), lbd, used)
	}
	return out
}

// mixed is the example, with literals of level 0, and what is dead, or shorter than it was.
func mixed(t *testing.T) *scene {
	t.Helper()
	s := newScene(t, 10, lits(-1, 2, -8), lits(-1, 3), lits(-2, -3, 4), lits(-5, 6, -4), lits(-4, -6, 7), lits(1, 2), lits(-5, -6, 3))
	s.kill(s.refs[5])
	s.a.Shrink(s.refs[6], 2)
	s.live[s.refs[6]] = lits(-5, -6)
	s.a.Mark(s.refs[2], 3, 4)
	s.by(8, 0, 9, 0)
	s.decide(5, 1)
	s.by(2, 1, 3, 2, 4, 3, 6, 4, 7, 5)
	s.decide(10)
	return s
}

// P17.3: whatever is called, and whether or not it answers an error, the arena and the trail are as they were, with the trail's head where it was.
func TestOnlyRead(t *testing.T) {
	s := mixed(t)
	s.x.Next()
	s.x.Next()
	was := kept(s)
	for range 2 {
		for _, c := range []api.Clause{nil, lits(-10), lits(-10, -9, -4, -3, -2, -8, -1), lits(-10, -5, -7, -6, -4), lits(-10, -7, -6, -9), lits(-10, -10), lits(-10, 9), lits(-4, -5, -6), lits(0)} {
			s.left(c)
			if got := kept(s); got != was {
				t.Fatalf("%s was %s", got, was)
			}
		}
	}
	for range s.x.Len() - 2 {
		if _, ok := s.x.Next(); !ok {
			t.Fatal("the head has moved")
		}
	}
	if _, ok := s.x.Next(); ok {
		t.Error("the head has moved")
	}
}

// P17.3: clauses that are handed in are only read, what lies behind their length included.
func TestHandedIn(t *testing.T) {
	s := mixed(t)
	for _, all := range []api.Clause{lits(-10, -4, -3, -2, -1, -5, -9, -10, 77, 0), lits(-10, -5, -7, -6, -4, -8, -2, -10, -10, -3, -4), lits(-10, -6, -7, 0, 5)} {
		was := slices.Clone(all)
		for n := range len(all) + 1 {
			for k := range n + 1 {
				s.left(all[k:n])
				s.left(append(lits(-10), all[k:n]...))
			}
		}
		if !slices.Equal(all, was) {
			t.Errorf("written over: %v, was %v", all, was)
		}
	}
}

// P17.3: what is answered is new memory: what becomes of it, and of what was handed in, is seen nowhere else; also where the clause stays as it is.
func TestNewMemory(t *testing.T) {
	s := mixed(t)
	was := kept(s)
	for _, c := range []api.Clause{lits(-10), lits(-10, -5), lits(-10, -7, -6), lits(-10, -4, -3, -2, -8, -1), lits(-10, -5, -7, -6, -4), lits(-4, -5)} {
		for _, call := range calls() {
			own := append(slices.Clone(c), 7, 7)[:len(c)]
			want, e := call(s.a, s.x, own)
			if e != api.OK {
				t.Fatal(e)
			}
			first := slices.Clone(want)
			got, _ := call(s.a, s.x, own)
			spoil(got, 99)
			if !slices.Equal(own, c) || !slices.Equal(own[:len(c)+2][len(c):], lits(7, 7)) {
				t.Fatalf("%v is %v now", c, own[:len(c)+2])
			}
			spoil(own, 98)
			if !slices.Equal(want, first) {
				t.Fatalf("%v is %v now", first, want)
			}
		}
	}
	if got := kept(s); got != was {
		t.Fatalf("%s was %s", got, was)
	}
}

// spoil writes over a list, what lies behind its length included.
func spoil(list api.Clause, l api.Lit) {
	list = list[:cap(list)]
	for i := range list {
		list[i] = l
	}
}

// Nothing is kept from call to call: an arena and a trail that change are seen as they are then.
func TestNothingKept(t *testing.T) {
	s := mixed(t)
	c := lits(-10, -4, -3, -2, -1)
	s.minimises(c, lits(-10, -1))
	s.shrinks(c, lits(-10, -1))
	s.back(2)
	s.mayNot(c...)
	s.decide(10)
	s.minimises(c, lits(-10, -1))
	s.back(1)
	s.decide(2)
	s.by(1, 0, 3, 2, 4, 3)
	s.decide(10)
	s.minimises(c, lits(-10, -2, -1))
	s.shrinks(c, c)
	other := example(t)
	other.decide(8)
	other.minimises(lits(-8, -4, -3, -2, -1), lits(-8, -1))
	s.back(1)
	for _, l := range lits(1, 2, 3, 4, 10) {
		s.decide(l)
	}
	s.minimises(c, c)
	s.shrinks(c, c)
	s.mayNot(-10, -4, -3, 8)
}
