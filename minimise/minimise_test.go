package minimise

import (
	"math"
	"slices"
	"testing"

	"threshing/api"
	"threshing/arena"
	"threshing/trail"
)

const (
	leastLit    = math.MinInt32
	greatestLit = math.MaxInt32
)

// example is the chapter's: that of chapter 16.
func example(t *testing.T) *scene {
	t.Helper()
	s := newScene(t, 9, lits(-1, 2), lits(-1, 3), lits(-2, -3, 4), lits(-4, -5, 6), lits(-4, -6, 7), lits(-6, -7))
	s.decide(5, 1)
	s.by(2, 1, 3, 2, 4, 3, 6, 4, 7, 5)
	return s
}

// The chapter's examples, and some more of the same trail.
func TestExamples(t *testing.T) {
	s := example(t)
	s.mayNot(-6, -5, -4)
	s.decide(8)
	s.minimises(lits(-8, -4, -3, -2, -1), lits(-8, -1))
	s.shrinks(lits(-8, -4, -2, -5), lits(-8, -1, -5))
	s.minimises(lits(-8, -4, -3, -2), lits(-8, -3, -2))
	s.minimises(lits(-8, -7, -5), lits(-8, -7, -5))
	s.minimises(lits(-8, -7, -5, -4), lits(-8, -5, -4))
	s.minimises(lits(-8, -7, -6, -5, -1), lits(-8, -5, -1))
	s.shrinks(lits(-8, -5, -2, -4), lits(-8, -5, -1))
	s.shrinks(lits(-8, -7, -5, -6), lits(-8, -4, -5))
	s.shrinks(lits(-8, -7, -6), lits(-8, -7, -6))
}

// P17.1, P17.2: nil ones come ahead of all else that is wrong.
func TestNil(t *testing.T) {
	s := example(t)
	for _, y := range []struct {
		a *arena.Arena
		x *trail.Trail
	}{{nil, s.x}, {s.a, nil}, {nil, nil}} {
		for _, c := range []api.Clause{nil, {}, lits(-4, -5), lits(-4), lits(4), lits(0), lits(-4, -4), lits(-6, -4)} {
			if d, e := Minimise(y.a, y.x, c); e != api.ErrNil || len(d) > 0 {
				t.Errorf("Minimise(%v): %v %d", c, d, e)
			}
			if d, e := Shrink(y.a, y.x, c); e != api.ErrNil || len(d) > 0 {
				t.Errorf("Shrink(%v): %v %d", c, d, e)
			}
		}
	}
}

// Arenas and trails that were not made by New, of no room and of no variables. (Without clauses no literal has a reason.)
func TestNotMade(t *testing.T) {
	s := example(t)
	s.decide(8)
	for _, a := range []*arena.Arena{{}, arena.New(0), arena.New(-5), s.a} {
		for _, x := range []*trail.Trail{{}, mustTrail(t, 0), mustTrail(t, 9)} {
			for _, c := range []api.Clause{nil, lits(-8), lits(-8, -4), lits(0)} {
				if d, e := Minimise(a, x, c); e != api.ErrState || len(d) > 0 {
					t.Errorf("Minimise(%v): %v %d", c, d, e)
				}
				if d, e := Shrink(a, x, c); e != api.ErrState || len(d) > 0 {
					t.Errorf("Shrink(%v): %v %d", c, d, e)
				}
			}
		}
	}
	x, c := mustTrail(t, 3), lits(-3, -2, -1)
	x.Decide(1)
	x.Assign(2, trail.None)
	x.Decide(3)
	for _, a := range []*arena.Arena{{}, arena.New(0)} {
		if d, e := Minimise(a, x, c); e != api.OK || !slices.Equal(d, c) {
			t.Errorf("Minimise: %v %d", d, e)
		}
		if d, e := Shrink(a, x, c); e != api.OK || !slices.Equal(d, c) {
			t.Errorf("Shrink: %v %d", d, e)
		}
	}
}

// P17.1, P17.2: clauses that may not be made shorter: a literal is true, or has no value, wherever it stands, or has no variable here.
func TestNotFalse(t *testing.T) {
	s := newScene(t, 6)
	s.assign(1, trail.None)
	s.decide(2, 3)
	s.mayNot()
	for _, l := range lits(1, 2, 3, 4, -4, 6, -6, 7, -7, 0, api.MaxVar, -api.MaxVar, greatestLit, -greatestLit, leastLit) {
		for at := range 4 {
			s.mayNot(slices.Insert(lits(-3, -2, -1), at, l)...)
		}
		s.mayNot(l)
	}
	s.minimises(lits(-3, -2, -1), lits(-3, -2))
	s.shrinks(lits(-3, -2, -1), lits(-3, -2, -1))
}

// P17.1, P17.2: clauses that have a literal twice, wherever the two stand.
func TestTwice(t *testing.T) {
	s := newScene(t, 6)
	s.assign(1, trail.None)
	s.decide(2, 3, 4)
	c := lits(-4, -3, -2, -1)
	for _, l := range c {
		for at := range 5 {
			s.mayNot(slices.Insert(slices.Clone(c), at, l)...)
		}
		s.mayNot(l, l)
	}
	s.minimises(c, lits(-4, -3, -2))
	s.shrinks(c, c)
}

// P17.1, P17.2: of the first literal's level there is another one, wherever it stands, and whichever level that is; of other levels there may be more.
func TestFirstLevel(t *testing.T) {
	s := newScene(t, 9)
	s.by(1, 0, 2, 0)
	s.decide(3)
	s.by(4, 0)
	s.decide(5)
	s.by(6, 0)
	levels := []api.Clause{lits(-1, -2), lits(-3, -4), lits(-5, -6)}
	for i, pair := range levels {
		others := slices.Concat(slices.Delete(slices.Clone(levels), i, i+1)...)
		for _, l := range lits(pair[0], pair[1]) {
			other := pair[0] + pair[1] - l
			c := append(lits(l), others...)
			for at := 1; at <= len(c); at++ {
				s.mayNot(slices.Insert(slices.Clone(c), at, other)...)
			}
			s.mayNot(l, other)
			s.minimises(lits(l), lits(l))
			s.shrinks(c, c)
		}
	}
	s.minimises(lits(-5, -1, -4, -2, -3), lits(-5, -4, -3))
	s.minimises(lits(-3, -1, -6, -2, -5), lits(-3, -6, -5))
	s.minimises(lits(-1, -4, -5, -6, -3), lits(-1, -4, -5, -6, -3))
}

// P17.1: literals of level 0 are implied, with whatever reason, in the clause and in reasons; the first one stays, of that level too.
func TestLevelZero(t *testing.T) {
	s := newScene(t, 9, lits(1), lits(-1, 2), lits(-2, -3, 4), lits(-4, -1, -6, 7))
	s.by(1, 1, 2, 2, 3, 0, 4, 3)
	s.decide(5)
	s.decide(6)
	s.by(7, 4)
	s.decide(8)
	s.minimises(lits(-8, -1), lits(-8))
	s.minimises(lits(-8, -2), lits(-8))
	s.minimises(lits(-8, -3), lits(-8))
	s.minimises(lits(-8, -4), lits(-8))
	s.minimises(lits(-8, -4, -3, -6, -2, -1), lits(-8, -6))
	s.minimises(lits(-8, -7, -6), lits(-8, -6))
	s.minimises(lits(-8, -7, -5), lits(-8, -7, -5))
	for _, l := range lits(-1, -2, -3, -4) {
		s.minimises(lits(l), lits(l))
		s.minimises(lits(l, -7, -6), lits(l, -6))
		s.shrinks(lits(l, -7, -6), lits(l, -6))
		s.shrinks(lits(l), lits(l))
	}
	// Shrink lets them stay.
	s.shrinks(lits(-8, -4, -2, -1, -3), lits(-8, -4, -2, -1, -3))
	s.shrinks(lits(-8, -4, -7, -2, -6, -1), lits(-8, -4, -6, -2, -1))
}

// P17.1: what was decided, or has no clause as its reason, is not implied; nor is what has it in its reason, but for one that the clause has.
func TestDecided(t *testing.T) {
	s := newScene(t, 9)
	s.decide(1)
	s.by(2, 0)
	s.because(lits(3, -1), lits(4, -2), lits(5, -1, -2))
	s.decide(6)
	s.minimises(lits(-6, -1), lits(-6, -1))
	s.minimises(lits(-6, -2), lits(-6, -2))
	s.minimises(lits(-6, -3), lits(-6, -3))
	s.minimises(lits(-6, -4), lits(-6, -4))
	s.minimises(lits(-6, -1, -2), lits(-6, -1, -2))
	s.minimises(lits(-6, -5, -1), lits(-6, -5, -1))
	s.minimises(lits(-6, -2, -5), lits(-6, -2, -5))
	s.minimises(lits(-6, -2, -5, -1), lits(-6, -2, -1))
	s.minimises(lits(-6, -4, -3, -1), lits(-6, -4, -1))
	s.minimises(lits(-6, -3, -4, -2), lits(-6, -3, -2))
	// A level of what no clause gave.
	s.shrinks(lits(-6, -1, -2), lits(-6, -1, -2))
}

// P17.1: reasons through many levels, through literals that the clause has not, and to such as go themselves.
func TestThroughLevels(t *testing.T) {
	s := newScene(t, 20)
	s.decide(1)
	s.because(lits(11, -1))
	s.decide(2)
	s.because(lits(12, -2, -11), lits(13, -12, -1))
	s.decide(3)
	s.because(lits(14, -13, -3), lits(15, -14, -11, -2))
	s.decide(4)
	s.because(lits(16, -15))
	s.decide(5)
	s.minimises(lits(-5, -16, -1, -2, -3), lits(-5, -1, -2, -3))
	s.minimises(lits(-5, -3, -2, -1, -16), lits(-5, -3, -2, -1))
	s.minimises(lits(-5, -16, -1, -2), lits(-5, -16, -1, -2))
	s.minimises(lits(-5, -16, -2, -3), lits(-5, -16, -2, -3))
	s.minimises(lits(-5, -16, -3, -1), lits(-5, -16, -3, -1))
	s.minimises(lits(-5, -16, -15), lits(-5, -15))
	s.minimises(lits(-5, -16, -15, -14), lits(-5, -15, -14))
	s.minimises(lits(-5, -16, -15, -14, -13), lits(-5, -15, -14, -13))
	s.minimises(lits(-5, -16, -14, -11, -2), lits(-5, -14, -11, -2))
	s.minimises(lits(-5, -16, -14, -12, -11, -2), lits(-5, -14, -11, -2))
	s.minimises(lits(-5, -16, -15, -14, -13, -12, -11, -3, -2, -1), lits(-5, -3, -2, -1))
	// Each hangs on the clause as it was, not on what is left of it by then.
	s.minimises(lits(-5, -13, -12, -1, -2), lits(-5, -1, -2))
	s.minimises(lits(-5, -11, -12, -13, -2, -1), lits(-5, -2, -1))
	s.minimises(lits(-5, -12, -11, -2), lits(-5, -11, -2))
	// One that is not of the greatest level may be the first.
	s.minimises(lits(-1, -16, -3, -15, -2), lits(-1, -3, -2))
	s.minimises(lits(-14, -1, -11, -2), lits(-14, -1, -2))
}

// P17.1: one that is asked for more than once: in more than one reason, of literals that are implied and of such as are not.
func TestAskedAgain(t *testing.T) {
	s := newScene(t, 20)
	s.decide(1, 2)
	s.because(lits(3, -1), lits(4, -2), lits(5, -3), lits(6, -3, -4), lits(7, -4, -5), lits(8, -6, -7), lits(9, -5, -3), lits(10, -9, -3, -5))
	s.decide(20)
	s.minimises(lits(-20, -5, -6, -7, -8, -9, -10), lits(-20, -5, -6, -7, -9, -10))
	s.minimises(lits(-20, -5, -6, -7, -8, -9, -10, -1), lits(-20, -6, -7, -1))
	s.minimises(lits(-20, -10, -9, -8, -7, -6, -5, -1), lits(-20, -7, -6, -1))
	s.minimises(lits(-20, -1, -10, -8, -9, -7), lits(-20, -1, -8, -7))
	s.minimises(lits(-20, -2, -8, -7, -6), lits(-20, -2, -7, -6))
}

// P17.1: the first literal stays, though it is implied; and it counts as one of the clause's for others.
func TestFirstStays(t *testing.T) {
	s := newScene(t, 9)
	s.decide(1)
	s.because(lits(2, -1))
	s.decide(3)
	s.because(lits(4, -2), lits(5, -4), lits(6, -5, -3))
	s.decide(7)
	s.because(lits(8, -4))
	s.minimises(lits(-4, -1), lits(-4, -1))
	s.minimises(lits(-4, -2, -1), lits(-4, -1))
	s.minimises(lits(-8, -4), lits(-8, -4))
	s.minimises(lits(-4, -8), lits(-4))
	s.minimises(lits(-4, -8, -1), lits(-4, -1))
	s.minimises(lits(-2, -5, -4), lits(-2))
	s.minimises(lits(-2, -6, -3), lits(-2, -3))
	s.shrinks(lits(-4, -2, -1), lits(-4, -1))
	s.shrinks(lits(-4, -8, -1), lits(-4, -8, -1))
}

// P17.1: what was put on the trail late is implied by what lies levels below, without a literal of its own level; so is what a clause of one literal made true.
func TestLate(t *testing.T) {
	s := newScene(t, 9)
	s.decide(1, 2, 3)
	s.because(lits(4, -1), lits(5), lits(6, -4, -5))
	s.decide(7)
	s.minimises(lits(-7, -4, -1), lits(-7, -1))
	s.minimises(lits(-7, -6, -1), lits(-7, -1))
	s.minimises(lits(-7, -5), lits(-7))
	s.minimises(lits(-7, -5, -2), lits(-7, -2))
	s.minimises(lits(-7, -6, -2), lits(-7, -6, -2))
	s.shrinks(lits(-7, -6, -4), lits(-7, -4))
	s.shrinks(lits(-7, -5, -4, -2), lits(-7, -4, -2))
	s.shrinks(lits(-7, -3, -1, -4), lits(-7, -3, -1))
	s.shrinks(lits(-7, -3, -4), lits(-7, -3, -4))
	s.shrinks(lits(-7, -5, -3), lits(-7, -3))
	s.shrinks(lits(-7, -5), lits(-7, -5))
	s.shrinks(lits(-7, -6, -1, -3), lits(-7, -3, -1))
	s.shrinks(lits(-7, -4, -6, -1), lits(-7, -4, -1))
}

// P17.1, P17.2: literals that reasons have twice, their own one among them, count once; and in a reason any literal may stand first.
func TestDoubled(t *testing.T) {
	s := newScene(t, 9, lits(-1, -1, 2, 2), lits(-2, 3, -1, 3, -2), lits(-3, -3, -2, 4, -2), lits(-4, -2, 5, -2, -4, 5))
	s.decide(1)
	s.by(2, 1, 3, 2, 4, 3, 5, 4)
	s.decide(6)
	s.minimises(lits(-6, -5, -4, -3, -2, -1), lits(-6, -1))
	s.minimises(lits(-6, -5, -4, -2), lits(-6, -4, -2))
	s.minimises(lits(-6, -5, -2, -1), lits(-6, -1))
	s.shrinks(lits(-6, -5, -4), lits(-6, -1))
	s.shrinks(lits(-6, -4, -3), lits(-6, -1))
}
