package analyze

import (
	"math"
	"slices"
	"testing"

	"threshing/api"
	"threshing/arena"
	"threshing/trail"
)

const (
	leastLit    = math.MinInt32
	greatestLit = math.MaxInt32
)

// example is the chapter's.
func example(t *testing.T) *scene {
	t.Helper()
	s := newScene(t, 9, lits(-1, 2), lits(-1, 3), lits(-2, -3, 4), lits(-4, -5, 6), lits(-4, -6, 7), lits(-6, -7))
	s.decide(5)
	s.decide(1)
	s.by(2, 1, 3, 2, 4, 3, 6, 4, 7, 5)
	return s
}

// The chapter's examples.
func TestExamples(t *testing.T) {
	s := example(t)
	bad := s.refs[5]
	s.learns(bad, Learned{lits(-4, -5), 1, 2, []int{4, 5, 6, 7}})
	s.chains(nil, lits(-4, -5), bad, ids(4, 5, 6), api.OK)
	if n := s.lbd(lits(1, 2, 5)); n != 2 {
		t.Errorf("LBD of 1 2 5: %d", n)
	}
	if n := s.lbd(lits(9)); n != 0 {
		t.Errorf("LBD of 9: %d", n)
	}
}

// P16.1, P16.3: nil ones come ahead of all else that is wrong.
func TestNil(t *testing.T) {
	s := example(t)
	for _, r := range []arena.Ref{math.MinInt, -1, 0, 1, s.refs[4], s.refs[5], math.MaxInt} {
		for _, y := range []struct {
			a *arena.Arena
			x *trail.Trail
		}{{nil, s.x}, {s.a, nil}, {nil, nil}} {
			if l, e := Learn(y.a, y.x, r); e != api.ErrNil || !zero(l) {
				t.Errorf("Learn: %v %d", l, e)
			}
			for _, c := range []api.Clause{nil, lits(-4, -5), lits(0)} {
				if h, e := Chain(y.a, y.x, nil, c, r); e != api.ErrNil || len(h) != 0 {
					t.Errorf("Chain: %v %d", h, e)
				}
			}
		}
	}
}

func zero(l Learned) bool {
	return len(l.Lits) == 0 && l.Level == 0 && l.LBD == 0 && len(l.Seen) == 0
}

// P16.1, P16.3: places at which no clause begins, and dead clauses' places: told ahead of what the trail has.
func TestNoClause(t *testing.T) {
	s := newScene(t, 4, lits(-1, -2), lits(-1, -2, -3), nil, lits(-2))
	dead := s.put(-1, -2)
	s.kill(dead)
	places := []arena.Ref{math.MinInt, math.MinInt32, -4, -2, -1, 1, 2, 3, 4, 5, 7, 12, dead, dead + 1, 1000, 1 << 32, 1 << 32 * 6, math.MaxInt}
	see := func() {
		t.Helper()
		for _, r := range places {
			s.learnsNot(r, api.ErrRef)
			s.chains(nil, lits(-1, -2), r, nil, api.ErrRef)
			s.chains(ids(0, 8, 9), nil, r, nil, api.ErrRef)
		}
	}
	see()
	s.assign(1, trail.None)
	see()
	s.decide(2)
	s.decide(3)
	see()
	s.kill(s.refs[0])
	places = append(places, s.refs[0])
	see()
}

// Arenas and trails that were not made by New, of no room and of no variables.
func TestNotMade(t *testing.T) {
	s := example(t)
	empty, _ := trail.New(0)
	for _, a := range []*arena.Arena{{}, arena.New(0), arena.New(-5)} {
		for _, x := range []*trail.Trail{{}, empty, s.x} {
			if l, e := Learn(a, x, 0); e != api.ErrRef || !zero(l) {
				t.Errorf("Learn: %v %d", l, e)
			}
			if h, e := Chain(a, x, nil, nil, 0); e != api.ErrRef || len(h) != 0 {
				t.Errorf("Chain: %v %d", h, e)
			}
		}
	}
	for _, x := range []*trail.Trail{{}, empty} {
		if l, e := Learn(s.a, x, s.refs[5]); e != api.ErrState || !zero(l) {
			t.Errorf("Learn: %v %d", l, e)
		}
		if h, e := Chain(s.a, x, nil, nil, s.refs[5]); e != api.ErrState || len(h) != 0 {
			t.Errorf("Chain: %v %d", h, e)
		}
		if n := LBD(x, lits(1, 2)); n != 0 {
			t.Errorf("LBD: %d", n)
		}
	}
}

// P16.1: a trail of level 0, of which nothing is learnt, and chains are had.
func TestLevelZero(t *testing.T) {
	s := newScene(t, 4, lits(-1, -2), lits(-1, 3), nil)
	s.learnsNot(s.refs[0], api.ErrState)
	s.chains(ids(0, 11, 12), nil, s.refs[0], nil, api.ErrState)
	s.by(2, 0, 1, 0, 3, 2)
	s.learnsNot(s.refs[0], api.ErrState)
	s.learnsNot(s.refs[1], api.ErrState)
	s.learnsNot(s.refs[2], api.ErrState)
	s.chains(ids(0, 11, 12), nil, s.refs[0], ids(12, 11, 1), api.OK)
	s.chains(ids(0, 11, 12), nil, s.refs[1], nil, api.ErrState)
	s.chains(nil, nil, s.refs[2], ids(3), api.OK)
}

// P16.1, P16.3: clauses that are no conflict: one literal is true, or has no value, wherever it stands, or has no variable here.
func TestNoConflict(t *testing.T) {
	s := newScene(t, 5)
	s.assign(1, trail.None)
	s.decide(2)
	s.decide(3)
	right := s.put(-1, -2, -3)
	for _, l := range lits(1, 2, 3, 4, -4, 5, -5, 6, -6, api.MaxVar, greatestLit, -greatestLit, leastLit) {
		for at := range 4 {
			c := slices.Insert(lits(-1, -2, -3), at, l)
			r := s.put(c...)
			s.learnsNot(r, api.ErrState)
			s.chains(ids(0, 9), lits(-2, -3), r, nil, api.ErrState)
			s.chains(nil, nil, r, nil, api.ErrState) // ahead of ErrReason
		}
		r := s.put(l)
		s.learnsNot(r, api.ErrState)
		s.chains(nil, nil, r, nil, api.ErrState)
	}
	s.learns(right, Learned{lits(-3, -2), 1, 2, []int{2, 3}})
	s.chains(ids(0, 9), lits(-2, -3), right, ids(9, 1), api.OK)
}

// P16.1: conflicts of which fewer than one literal is of the level now.
func TestNoneOfLevel(t *testing.T) {
	s := newScene(t, 5, lits(-1), lits(-1, -2), lits(-2), nil)
	s.assign(1, trail.None)
	s.decide(2)
	s.learnsNot(s.refs[0], api.ErrState)
	s.learns(s.refs[1], Learned{lits(-2), 0, 1, []int{2}})
	s.learns(s.refs[2], Learned{lits(-2), 0, 1, []int{2}})
	s.learnsNot(s.refs[3], api.ErrState)
	s.decide(3)
	for _, r := range s.refs {
		s.learnsNot(r, api.ErrState)
	}
}

// P16.1: conflicts of which the last literal's reason is None, at first or on the way: nothing is learnt. One whose reason is None may be left alone, decided or not.
func TestLastWithoutReason(t *testing.T) {
	s := newScene(t, 6, lits(-1, -3), lits(-2, -3), lits(-3), lits(-3, 4), lits(-4, 5), lits(-4, -5), lits(-2, -4, -5), lits(-2, -3, 6))
	s.decide(1)
	s.decide(2)
	s.by(3, 0, 4, 4, 5, 5)
	s.learns(s.refs[0], Learned{lits(-3, -1), 1, 2, []int{1, 3}})
	s.learnsNot(s.refs[1], api.ErrState)
	s.learns(s.refs[2], Learned{lits(-3), 0, 1, []int{3}})
	s.learns(s.refs[5], Learned{lits(-4), 0, 1, []int{4, 5}})
	s.learnsNot(s.refs[6], api.ErrState) // 5 and 4 go, then 3 is the last one
	s.back(1)
	s.decide(2)
	s.by(3, 0, 6, 8)
	s.learnsNot(s.put(-6), api.OK)
	s.learnsNot(s.put(-6, -1), api.OK)
	s.learnsNot(s.put(-6, -3), api.ErrState)
	s.learnsNot(s.put(-6, -2), api.ErrState)
}

// P16.1: a conflict with one literal of the level now is learnt as it is, in the clause's order, whatever its reasons are.
func TestOneOfLevel(t *testing.T) {
	s := newScene(t, 9, lits(-8, 9), lits(-1, -9, -3, -5), lits(-3, -9), lits(-9))
	for _, l := range lits(1, 3, 5, 7, 8) {
		s.decide(l)
	}
	s.by(9, 1)
	s.learns(s.refs[1], Learned{lits(-9, -5, -3, -1), 3, 4, []int{1, 3, 5, 9}})
	s.learns(s.refs[2], Learned{lits(-9, -3), 2, 2, []int{3, 9}})
	s.learns(s.refs[3], Learned{lits(-9), 0, 1, []int{9}})
	s.chains(nil, lits(-9, -5, -3, -1), s.refs[1], ids(2), api.OK)
}

// P16.1: what comes to one literal leads back to level 0; so it does where the decided one is left.
func TestOneLiteral(t *testing.T) {
	s := newScene(t, 5, lits(-1, 2), lits(-1, 3), lits(-2, -3), lits(-2, 4), lits(-3, 5), lits(-5, -4))
	s.decide(-4)
	s.back(0)
	s.decide(1)
	s.by(2, 1, 3, 2)
	s.learns(s.refs[2], Learned{lits(-1), 0, 1, []int{1, 2, 3}})
	s.chains(nil, lits(-1), s.refs[2], ids(1, 2, 3), api.OK)
	s.by(4, 4, 5, 5)
	s.learns(s.refs[5], Learned{lits(-1), 0, 1, []int{1, 2, 3, 4, 5}})
	s.chains(nil, lits(-1), s.refs[5], ids(1, 2, 4, 5, 6), api.OK)
}

// P16.1: literals of level 0 are left out, of the conflict and of reasons: of the clause, of Seen, of the LBD. The chain has their units.
func TestLevelZeroLeftOut(t *testing.T) {
	s := newScene(t, 8, lits(-1, -4, 6), lits(-2, -6, 7), lits(-3, -7, -6), lits(1), lits(-8, 2))
	s.by(8, 0, 1, 4, 2, 5, 3, 0)
	s.decide(5)
	s.decide(4)
	s.by(6, 1, 7, 2)
	s.learns(s.refs[2], Learned{lits(-6), 0, 1, []int{6, 7}})
	units := ids(0, 41, 42, 43, 0, 0, 0, 0, 48)
	s.chains(units, lits(-6), s.refs[2], ids(42, 43, 2, 3), api.OK)
	s.chains(units, lits(-4), s.refs[2], ids(41, 42, 43, 1, 2, 3), api.OK)
	s.chains(units, lits(-6, -2), s.refs[2], ids(43, 2, 3), api.OK)
}

// P16.1: the order of the clause is that of the trail, backward, that of Seen by size, however the clauses have their literals.
func TestOrder(t *testing.T) {
	s := newScene(t, 12, lits(-1, 5, -12), lits(7, -4, -5, -3), lits(-9, 4, -5), lits(-1, -9, 4), lits(-9, 7, -12, -1, -2, -3))
	s.decide(9)
	s.decide(2)
	s.by(-7, 0)
	s.decide(12)
	s.by(3, 0)
	s.decide(1)
	s.by(5, 1, -4, 2)
	s.learns(s.refs[2], Learned{lits(-5, -3, 7, -9), 3, 4, []int{3, 4, 5, 7, 9}})
	s.learns(s.refs[3], Learned{lits(-1, -3, -12, 7, -9), 3, 4, []int{1, 3, 4, 5, 7, 9, 12}})
	s.learns(s.refs[4], Learned{lits(-1, -3, -12, 7, -2, -9), 3, 4, []int{1, 2, 3, 7, 9, 12}})
}

// P16.1: of the literals of the level now it is the last one on the trail that goes, whatever its number, and wherever it stands in its clause.
func TestLastGoes(t *testing.T) {
	s := newScene(t, 9, lits(-9, 4), lits(7, -4, -2), lits(-7, -4, 1), lits(-1, -9, 3), lits(-3, -7, -8))
	s.decide(2)
	s.decide(8)
	s.decide(9)
	s.by(4, 1, 7, 2, 1, 3, 3, 4)
	s.learns(s.refs[4], Learned{lits(-9, -8, -2), 2, 3, []int{1, 2, 3, 4, 7, 8, 9}})
	s.learns(s.put(-7, -1), Learned{lits(-4, -2), 1, 2, []int{1, 2, 4, 7}})
	s.learns(s.put(-1, -7), Learned{lits(-4, -2), 1, 2, []int{1, 2, 4, 7}})
	s.learns(s.put(-4, -7, -2), Learned{lits(-4, -2), 1, 2, []int{2, 4, 7}})
	s.learns(s.put(-8, -3, -4), Learned{lits(-9, -8, -2), 2, 3, []int{1, 2, 3, 4, 7, 8, 9}})
}

// P16.1, P16.3: literals that clauses have twice, the reason's own one among them, count once.
func TestDoubled(t *testing.T) {
	s := newScene(t, 5, lits(-2, 3, -2, 3, -1), lits(-3, -3, 4, 4), lits(-4, -3, -4, -1, -3, -1), lits(-1, -1), lits(-4, -4))
	s.decide(1)
	s.decide(2)
	s.by(3, 1, 4, 2)
	s.learns(s.refs[2], Learned{lits(-3, -1), 1, 2, []int{1, 3, 4}})
	s.learnsNot(s.refs[3], api.ErrState)
	s.learns(s.refs[4], Learned{lits(-4), 0, 1, []int{4}})
	s.chains(nil, lits(-3, -1, -3), s.refs[2], ids(2, 3), api.OK)
	s.chains(nil, lits(-2, -1, -1), s.refs[2], ids(1, 2, 3), api.OK)
}

// P16.2: how many levels there are.
func TestLBD(t *testing.T) {
	s := newScene(t, 9)
	s.by(8, 0, -9, 0)
	s.decide(1)
	s.by(2, 0, -3, 0)
	s.decide(-4)
	s.decide(5)
	s.by(6, 0)
	for _, y := range []struct {
		c    api.Clause
		want int
	}{
		{nil, 0}, {lits(), 0}, {lits(7), 0}, {lits(-7), 0}, {lits(0), 0}, {lits(10, -10, leastLit, greatestLit, -greatestLit, 0, api.MaxVar), 0},
		{lits(1), 1}, {lits(-1), 1}, {lits(8), 1}, {lits(-8), 1}, {lits(8, 9, -9, -8), 1}, {lits(6), 1},
		{lits(1, 2, 3), 1}, {lits(1, 1), 1}, {lits(1, -1, 1), 1}, {lits(-3, 2, 3), 1}, {lits(5, -6), 1},
		{lits(1, 4), 2}, {lits(1, 8), 2}, {lits(8, -4), 2}, {lits(4, 6, -4, 5), 2}, {lits(7, 1, 10, 4, 0), 2},
		{lits(1, 4, 5), 3}, {lits(6, 3, 4, 5, 2, 1), 3}, {lits(8, 5, 2), 3},
		{lits(1, 2, 3, 4, 5, 6, 7, 8, 9), 4}, {lits(-9, -4, -5, -1), 4}, {lits(leastLit, 6, 8, 4, 3, 3, 4, 8, 6), 4},
	} {
		if got := s.lbd(y.c); got != y.want {
			t.Errorf("LBD(%v): %d, want %d", y.c, got, y.want)
		}
		if got := LBD(nil, y.c); got != 0 {
			t.Errorf("LBD(nil, %v): %d", y.c, got)
		}
	}
	s.back(1)
	if got := s.lbd(lits(1, 2, 3, 4, 5, 6, 7, 8, 9)); got != 2 {
		t.Errorf("at level 1: %d", got)
	}
}

// P16.2: at most 65535 of them are told; so it is with the LBD of what is learnt.
func TestMostLevels(t *testing.T) {
	const levels = 70000
	a, x := arena.New(api.MaxArena), mustTrail(t, levels)
	c := api.Clause{}
	for v := api.Lit(1); v <= levels; v++ {
		x.Decide(v)
		c = append(c, -v)
	}
	for _, n := range []int{0, 1, 2, 300, 65533, 65534, 65535, 65536, 65537, levels - 1, levels} {
		if got := LBD(x, c[:n]); got != min(n, 65535) {
			t.Fatalf("LBD of %d levels: %d", n, got)
		}
	}
	for _, n := range []int{65533, 65534, 65535, 65536, levels - 1} {
		r, _ := a.Put(1, append(slices.Clone(c[:n]), -levels), false, 0)
		l, e := Learn(a, x, r)
		if e != api.OK || l.LBD != min(n+1, 65535) || l.Level != n || len(l.Lits) != n+1 || len(l.Seen) != n+1 {
			t.Errorf("of %d levels: LBD %d, level %d, %d literals, %d seen, %d", n+1, l.LBD, l.Level, len(l.Lits), len(l.Seen), e)
		}
		slices.Reverse(l.Lits)
		if e == api.OK && !slices.Equal(l.Lits[:n], c[:n]) {
			t.Errorf("of %d levels: not in order", n+1)
		}
	}
}

func mustTrail(t *testing.T, vars int) *trail.Trail {
	t.Helper()
	x, e := trail.New(vars)
	if e != api.OK {
		t.Fatal(e)
	}
	return x
}

// P16.3: chains of the example for other clauses than the learnt one.
func TestChain(t *testing.T) {
	s := example(t)
	bad := s.refs[5]
	for _, y := range []struct {
		c    api.Clause
		want []int64
		e    api.Errno
	}{
		{lits(-4, -5), ids(4, 5, 6), 0}, {lits(-5, -4), ids(4, 5, 6), 0}, {lits(-5, -1), ids(1, 2, 3, 4, 5, 6), 0}, {lits(-2, -3, -5), ids(3, 4, 5, 6), 0}, {lits(-2, -5, -1), ids(2, 3, 4, 5, 6), 0},
		// All of the conflict's literals, and more; or one of them.
		{lits(-6, -7), ids(6), 0}, {lits(-7, -6, -7), ids(6), 0}, {lits(-1, -7, -2, -6, 9), ids(6), 0}, {lits(-6, -4), ids(5, 6), 0}, {lits(-7, -4, -5), ids(4, 6), 0},
		// Literals twice.
		{lits(-4, -5, -4, -5, -5), ids(4, 5, 6), 0}, {lits(-1, -5, -1), ids(1, 2, 3, 4, 5, 6), 0},
		// Literals that are true, without a value, or of no variable here, are none that is wanted or not.
		{lits(4, 5, -4, -5), ids(4, 5, 6), 0}, {lits(6, 7, -6, -7), ids(6), 0}, {lits(-4, 8, -9, -5), ids(4, 5, 6), 0}, {lits(0, -4, leastLit, -5, greatestLit, 10, -10, -greatestLit), ids(4, 5, 6), 0},
		// What is wanted was decided.
		{nil, nil, 160}, {lits(-4), nil, 160}, {lits(-5), nil, 160}, {lits(-1), nil, 160}, {lits(4, 5), nil, 160}, {lits(-7, -4), nil, 160}, {lits(-6), nil, 160}, {lits(-2, -5), nil, 160}, {lits(0), nil, 160},
	} {
		s.chains(nil, y.c, bad, y.want, y.e)
		s.chains(ids(0, 91, 92, 93, 94, 95, 96, 97), y.c, bad, y.want, y.e) // none is of level 0
	}
}

// P16.3: the chain is in the order of the trail, not of ids, with units between them, by whatever ways it is found.
func TestChainOrder(t *testing.T) {
	s := newScene(t, 9, lits(-8, -7, -6, -5, -4, -3), lits(8, -7, -2), lits(7, -3, -6), lits(6, -5, -4, -3), lits(5, -9), lits(4, -9, -1))
	s.by(3, 0, 1, 0, 2, 0)
	s.decide(9)
	s.by(4, 6, 5, 5, 6, 4, 7, 3, 8, 2)
	units := ids(0, 50, 7, 99)
	s.chains(units, lits(-9), s.refs[0], ids(99, 50, 7, 6, 5, 4, 3, 2, 1), api.OK)
	s.chains(units, lits(-9, -1), s.refs[0], ids(99, 7, 6, 5, 4, 3, 2, 1), api.OK)
	s.chains(units, lits(-5, -4), s.refs[0], ids(99, 7, 4, 3, 2, 1), api.OK)
	s.chains(units, lits(-5, -4, -8), s.refs[0], ids(99, 4, 3, 1), api.OK)
	s.chains(units, lits(-3, -6, -4, -5, -8), s.refs[0], ids(3, 1), api.OK)
}

// P16.3: what is wanted of level 0 has its unit, whatever its reason is; and only what is wanted needs one.
func TestChainUnits(t *testing.T) {
	s := newScene(t, 6, lits(2, -1), lits(-2, -3, 4), lits(-4, -1, 5), lits(-5, -2))
	s.by(1, 0, 2, 1)
	s.decide(3)
	s.by(4, 2, 5, 3)
	bad := s.refs[3]
	for _, y := range []struct {
		units []int64
		c     api.Clause
		want  []int64
		e     api.Errno
	}{
		{ids(0, 10, 20), lits(-3), ids(10, 20, 2, 3, 4), 0}, {ids(0, 10, 20), lits(-4), ids(10, 20, 3, 4), 0}, {ids(0, 10, 20, 30, 40, 50, 60, 70), lits(-3), ids(10, 20, 2, 3, 4), 0},
		{ids(-1, 1, 1), lits(-3), ids(1, 1, 2, 3, 4), 0}, {ids(math.MinInt64, api.MaxID, math.MaxInt64), lits(-3), ids(api.MaxID, math.MaxInt64, 2, 3, 4), 0},
		{ids(0, 10, 20), nil, nil, 160},
		// Too short, or not above 0.
		{nil, lits(-3), nil, 160}, {ids(), lits(-3), nil, 160}, {ids(5), lits(-3), nil, 160}, {ids(0, 10), lits(-3), nil, 160},
		{ids(0, 0, 20), lits(-3), nil, 160}, {ids(0, 10, 0), lits(-3), nil, 160}, {ids(9, 10, 0, 9), lits(-3), nil, 160}, {ids(0, -1, 20), lits(-3), nil, 160}, {ids(0, 10, -20), lits(-3), nil, 160}, {ids(0, math.MinInt64, 20), lits(-3), nil, 160},
		// What c has needs none.
		{nil, lits(-3, -1, -2), ids(2, 3, 4), 0}, {ids(0, 10), lits(-3, -2), ids(10, 2, 3, 4), 0}, {ids(0, 0, 20), lits(-3, -1), ids(20, 2, 3, 4), 0}, {ids(0, -5, -5), lits(-5, -2), ids(4), 0}, {ids(0, 0, 20), lits(-5), ids(20, 4), 0},
	} {
		s.chains(y.units, y.c, bad, y.want, y.e)
	}
}

// P16.3: units that end where they are needed, in memory that goes on with others.
func TestChainUnitsEnd(t *testing.T) {
	s := newScene(t, 4, lits(-3, -4))
	s.by(3, 0)
	s.decide(4)
	units := ids(0, 1, 2, 33, 44, 55)
	s.chains(units[:3], lits(-4), s.refs[0], nil, api.ErrReason)
	s.chains(units[:4], lits(-4), s.refs[0], ids(33, 1), api.OK)
	s.chains(units[1:4], lits(-4), s.refs[0], nil, api.ErrReason)
	s.chains(units[1:5], lits(-4), s.refs[0], ids(44, 1), api.OK)
}

// P16.3: literals that were decided, or put on the trail without a reason, must not be wanted, at whatever depth.
func TestChainReason(t *testing.T) {
	s := newScene(t, 7, lits(-1, 2), lits(-2, -5, 3), lits(-3, 4), lits(-4, -6))
	s.decide(1)
	s.by(5, 0)
	s.decide(6)
	s.by(2, 1, 3, 2, 4, 3)
	bad := s.refs[3]
	s.chains(nil, lits(-1, -5, -6), bad, ids(1, 2, 3, 4), api.OK)
	s.chains(nil, lits(-2, -5, -6), bad, ids(2, 3, 4), api.OK)
	s.chains(nil, lits(-3, -6), bad, ids(3, 4), api.OK)
	s.chains(nil, lits(-6, -4), bad, ids(4), api.OK)
	for _, c := range []api.Clause{lits(-1, -5), lits(-1, -6), lits(-5, -6), lits(-2, -6), lits(-3), lits(-4), lits(-6), lits(1, 5, 6), nil} {
		s.chains(nil, c, bad, nil, api.ErrReason)
		s.chains(ids(0, 11, 12, 13, 14, 15, 16, 17), c, bad, nil, api.ErrReason)
	}
}

// P16.3: of the errors that apply the first one named is told.
func TestChainErrors(t *testing.T) {
	s := example(t)
	s.kill(s.refs[1])
	for _, y := range []struct {
		r arena.Ref
		e api.Errno
	}{{-1, api.ErrRef}, {1, api.ErrRef}, {s.refs[1], api.ErrRef}, {s.refs[0], api.ErrState}, {s.refs[3], api.ErrState}, {s.put(-6, -7, 8), api.ErrState}, {s.put(-6, 7), api.ErrState}, {s.put(-5), api.ErrReason}} {
		s.chains(nil, nil, y.r, nil, y.e)
		if h, e := Chain(nil, s.x, nil, nil, y.r); len(h) != 0 || e != api.ErrNil {
			t.Errorf("Chain: %v %d", h, e)
		}
	}
}

// What lies in the arena beside is no matter: dead clauses, waste, what is used, other places of the same clauses.
func TestArenaChanged(t *testing.T) {
	s := newScene(t, 9, lits(-8, -9), lits(-1, 2, 7, 8), lits(-1, 3), lits(8), lits(-2, -3, 9, 9))
	s.kill(s.refs[0])
	s.a.Shrink(s.refs[1], 2)
	s.a.Shrink(s.refs[4], 2)
	s.a.Mark(s.refs[2], 77, 88)
	s.a.Swap(s.refs[2], 0, 1)
	s.live[s.refs[1]], s.live[s.refs[4]] = lits(-1, 2), lits(-2, -3)
	s.decide(1)
	s.by(2, 2, 3, 3)
	want := Learned{lits(-1), 0, 1, []int{1, 2, 3}}
	s.learns(s.refs[4], want)
	s.chains(nil, lits(-1), s.refs[4], ids(2, 3, 5), api.OK)
	moves := s.a.Collect()
	s.back(0)
	s.decide(1)
	s.assign(2, int(moves[0].To))
	s.assign(3, int(moves[1].To))
	l, e := Learn(s.a, s.x, moves[3].To)
	h, f := Chain(s.a, s.x, nil, l.Lits, moves[3].To)
	if e != api.OK || f != api.OK || !slices.Equal(l.Lits, want.Lits) || !slices.Equal(l.Seen, want.Seen) || !slices.Equal(h, ids(2, 3, 5)) {
		t.Errorf("behind Collect: %v %d, %v %d", l, e, h, f)
	}
}
