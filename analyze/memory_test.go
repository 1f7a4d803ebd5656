package analyze

import (
	"fmt"
	"slices"
	"testing"

	"threshing/api"
	"threshing/arena"
)

// kept is all that an arena and a trail tell.
func kept(s *scene) string {
	out := fmt.Sprintln(s.x.Lits(), s.x.Levels(), s.x.Vars(), s.x.Len())
	for v := range s.x.Vars() + 1 {
		out += fmt.Sprintln(v, s.x.Level(v), s.x.Reason(v), s.x.Place(v))
	}
	words, waste := s.a.Words()
	out += fmt.Sprintln(words, waste, s.a.Refs())
	for _, r := range s.a.Refs() {
		lbd, used := s.a.LBD(r)
		out += fmt.Sprintln(r, s.a.Lits(r), s.a.ID(r), s.a.Red(r), lbd, used)
	}
	return out
}

// mixed is the example, with literals of level 0, and what is dead, or shorter than it was.
func mixed(t *testing.T) *scene {
	t.Helper()
	s := newScene(t, 9, lits(-1, 2, -8), lits(-1, 3), lits(-2, -3, 4), lits(-5, 6, -4), lits(-4, -6, 7), lits(-6, -9, -7), lits(1, 2), lits(-5, -6, 3))
	s.kill(s.refs[6])
	s.a.Shrink(s.refs[7], 2)
	s.live[s.refs[7]] = lits(-5, -6)
	s.a.Mark(s.refs[2], 3, 4)
	s.by(8, 0, 9, 0)
	s.decide(5)
	s.decide(1)
	s.by(2, 1, 3, 2, 4, 3, 6, 4, 7, 5)
	return s
}

// P16.4: whatever is called, and whether or not it answers an error, the arena and the trail are as they were, with the trail's head where it was.
func TestOnlyRead(t *testing.T) {
	s := mixed(t)
	s.x.Next()
	s.x.Next()
	was := kept(s)
	for range 2 {
		for _, r := range append(slices.Clone(s.refs), -1, 3, 1000) {
			l, _ := s.learn(r)
			for _, units := range [][]int64{nil, ids(0, 0, 0, 0, 0, 0, 0, 0, 18, 19)} {
				for _, c := range []api.Clause{nil, l.Lits, lits(-4, -5), lits(-5, -1), lits(-8, -9, -1, -5), lits(0, 5)} {
					s.chain(units, c, r)
					s.lbd(c)
				}
			}
			if got := kept(s); got != was {
				t.Fatalf("%s was %s", got, was)
			}
		}
	}
	for range s.x.Len() - 2 {
		if _, ok := s.x.Next(); !ok {
			t.Fatal("the head has moved")
		}
	}
	if _, ok := s.x.Next(); ok {
		t.Error("the head has moved")
	}
}

// P16.4: units and clauses that are handed in are only read, what lies behind their length included.
func TestHandedIn(t *testing.T) {
	s := mixed(t)
	allUnits, all := ids(0, 1, 2, 3, 4, 5, 6, 7, 18, 19, 20, 21), lits(-5, -4, -5, 3, -1, 77, 0, 5)
	wasUnits, was := slices.Clone(allUnits), slices.Clone(all)
	for n := range len(allUnits) + 1 {
		for k := range len(all) + 1 {
			for _, r := range s.refs {
				s.chain(allUnits[:n], all[:k], r)
				s.lbd(all[:k])
			}
		}
	}
	if !slices.Equal(allUnits, wasUnits) || !slices.Equal(all, was) {
		t.Errorf("written over: %v, %v", allUnits, all)
	}
}

// P16.4: what is answered is new memory: what becomes of it, and of what was handed in, is seen nowhere else.
func TestNewMemory(t *testing.T) {
	s := mixed(t)
	bad, was := s.refs[5], kept(s)
	want := fmt.Sprint(s.learn(bad))
	units, c := ids(0, 0, 0, 0, 0, 0, 0, 0, 18, 19), lits(-5, -4)
	chain := fmt.Sprint(Chain(s.a, s.x, units, c, bad))
	for range 3 {
		l, _ := Learn(s.a, s.x, bad)
		m, _ := Learn(s.a, s.x, bad)
		h, _ := Chain(s.a, s.x, units, c, bad)
		g, _ := Chain(s.a, s.x, units, c, bad)
		spoil(l.Lits, 99)
		spoil(l.Seen, 99)
		spoil(h, 99)
		if got := fmt.Sprint(m, api.OK); got != want {
			t.Fatalf("%s, was %s", got, want)
		}
		if got := fmt.Sprint(g, api.OK); got != chain {
			t.Fatalf("%s, was %s", got, chain)
		}
		own, mine := slices.Clone(units), slices.Clone(c)
		k, _ := Chain(s.a, s.x, own, mine, bad)
		spoil(own, 7)
		spoil(mine, 7)
		if got := fmt.Sprint(k, api.OK); got != chain {
			t.Fatalf("%s, was %s", got, chain)
		}
	}
	// A conflict whose literals are all that is learnt, and a chain of nothing but it.
	r := s.put(-7, -5)
	l, _ := s.learn(r)
	h, _ := s.chain(nil, lits(-7, -5), r)
	spoil(l.Lits, 99)
	spoil(l.Seen, 99)
	spoil(h, 99)
	s.kill(r)
	if got := s.a.Lits(bad); !slices.Equal(got, lits(-6, -9, -7)) {
		t.Error(got)
	}
	s.learns(bad, Learned{lits(-4, -5), 1, 2, []int{4, 5, 6, 7}})
	if got := fmt.Sprint(s.learn(bad)); got != want {
		t.Errorf("%s, was %s, of %s", got, want, was)
	}
}

// spoil writes over a list, what lies behind its length included.
func spoil[T any](list []T, x T) {
	list = list[:cap(list)]
	for i := range list {
		list[i] = x
	}
}

// P16.4: nothing is kept from call to call: an arena and a trail that change are seen as they are then.
func TestNothingKept(t *testing.T) {
	s := mixed(t)
	bad := s.refs[5]
	s.learns(bad, Learned{lits(-4, -5), 1, 2, []int{4, 5, 6, 7}})
	s.back(1)
	s.learnsNot(bad, api.ErrState)
	s.decide(4)
	s.by(6, 4, 7, 5)
	s.learns(bad, Learned{lits(-4, -5), 1, 2, []int{4, 5, 6, 7}})
	s.back(0)
	s.decide(6)
	s.decide(4)
	s.by(7, 5)
	s.learns(bad, Learned{lits(-7, -6), 1, 2, []int{6, 7}})
	s.chains(nil, lits(-7, -6, -9), bad, ids(6), api.OK)
	other := example(t)
	other.learns(other.refs[5], Learned{lits(-4, -5), 1, 2, []int{4, 5, 6, 7}})
	s.kill(bad)
	s.learnsNot(bad, api.ErrRef)
	s.learnsNot(arena.Ref(-1), api.ErrRef)
}
