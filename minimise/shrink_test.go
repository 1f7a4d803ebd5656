package minimise

import (
	"slices"
	"testing"
)

// P17.2: a block of one literal stays, though another one would stand for it; so do the first one, and what is of level 0.
func TestBlockOfOne(t *testing.T) {
	s := newScene(t, 9)
	s.by(1, 0)
	s.because(lits(2, -1))
	s.decide(3)
	s.because(lits(4, -3))
	s.decide(5)
	s.because(lits(6, -5), lits(7, -6, -4))
	s.decide(8)
	s.shrinks(lits(-8), lits(-8))
	s.shrinks(lits(-8, -4), lits(-8, -4))
	s.shrinks(lits(-8, -7), lits(-8, -7))
	s.shrinks(lits(-8, -7, -4), lits(-8, -7, -4))
	s.shrinks(lits(-8, -1, -7, -2, -3), lits(-8, -1, -7, -2, -3))
	s.shrinks(lits(-7, -4, -2, -8, -1), lits(-7, -4, -2, -8, -1))
	s.shrinks(lits(-2, -8, -6, -4), lits(-2, -8, -6, -4))
}

// P17.2: a block comes to one literal that it had, or to another one, which stands where the first one of the block stood, in whatever order these are; all others stay where they are.
func TestWhereOneStands(t *testing.T) {
	s := newScene(t, 12)
	s.decide(1)
	s.because(lits(2, -1), lits(3, -2), lits(4, -2, -3))
	s.decide(5)
	s.decide(6)
	s.decide(7)
	for _, y := range []struct {
		block []int
		one   int
	}{{[]int{4, 3}, 2}, {[]int{4, 2}, 2}, {[]int{3, 2}, 2}, {[]int{4, 3, 2}, 2}, {[]int{4, 1}, 1}, {[]int{3, 1}, 1}, {[]int{2, 1}, 1}, {[]int{4, 3, 2, 1}, 1}, {[]int{4, 3, 1}, 1}} {
		for _, order := range orders(y.block) {
			// Two that stay are put among them, at all places.
			for i := range len(order) + 1 {
				for k := range len(order) + 2 {
					rest := slices.Insert(slices.Insert(slices.Clone(order), i, 5), k, 6)
					c, want := lits(-7), lits(-7)
					done := false
					for _, v := range rest {
						c = append(c, lits(0, -1, -2, -3, -4, -5, -6)[v])
						switch {
						case v > 4:
							want = append(want, c[len(c)-1])
						case !done:
							want = append(want, lits(0, -1, -2, -3, -4)[y.one])
							done = true
						}
					}
					s.shrinks(c, want)
				}
			}
		}
	}
}

// orders are all orders of a list.
func orders(list []int) [][]int {
	if len(list) == 0 {
		return [][]int{nil}
	}
	var all [][]int
	for i, x := range list {
		for _, o := range orders(slices.Delete(slices.Clone(list), i, i+1)) {
			all = append(all, append([]int{x}, o...))
		}
	}
	return all
}

// P17.2: the block is at its end as soon as it has one literal, however far that is from what was decided.
func TestSoonest(t *testing.T) {
	s := newScene(t, 12)
	s.decide(1)
	s.because(lits(2, -1), lits(3, -2), lits(4, -3), lits(5, -3), lits(6, -5, -4), lits(7, -6), lits(8, -6))
	s.decide(9)
	s.shrinks(lits(-9, -8, -7), lits(-9, -6))
	s.shrinks(lits(-9, -6, -7), lits(-9, -6))
	s.shrinks(lits(-9, -6, -8), lits(-9, -6))
	s.shrinks(lits(-9, -5, -4), lits(-9, -3))
	s.shrinks(lits(-9, -5, -6), lits(-9, -3))
	s.shrinks(lits(-9, -8, -4), lits(-9, -3))
	s.shrinks(lits(-9, -8, -2), lits(-9, -2))
	s.shrinks(lits(-9, -1, -8), lits(-9, -1))
	s.shrinks(lits(-9, -2, -3), lits(-9, -2))
}

// P17.2: a block stays as it was at first if one that is last in it has no reason, at first or on the way.
func TestBlockWithoutReason(t *testing.T) {
	s := newScene(t, 12)
	s.decide(1)
	s.because(lits(2, -1))
	s.by(3, 0)
	s.because(lits(4, -3, -2), lits(5, -4), lits(6, -3), lits(7, -2))
	s.decide(9)
	s.shrinks(lits(-9, -3, -2), lits(-9, -3, -2))
	s.shrinks(lits(-9, -4, -2), lits(-9, -4, -2))
	s.shrinks(lits(-9, -2, -5), lits(-9, -2, -5))
	s.shrinks(lits(-9, -7, -6, -5), lits(-9, -7, -6, -5))
	s.shrinks(lits(-9, -1, -3), lits(-9, -1, -3))
	// It is not asked of the one that is left.
	s.shrinks(lits(-9, -4, -5), lits(-9, -4))
	s.shrinks(lits(-9, -6, -3), lits(-9, -3))
	s.shrinks(lits(-9, -7, -1), lits(-9, -1))
	s.shrinks(lits(-9, -1, -2), lits(-9, -1))
}

// P17.2: a block stays as it was at first if a reason has a literal of another level that is not in the clause, at first or on the way; those of level 0, and those that the clause has, the first one too, do no harm.
func TestOtherLevels(t *testing.T) {
	s := newScene(t, 20)
	s.by(1, 0)
	s.because(lits(2, -1))
	s.decide(3)
	s.because(lits(4, -3))
	s.decide(5)
	s.because(lits(6, -5, -4), lits(7, -6, -2), lits(8, -7, -6, -3), lits(9, -1, -7))
	s.decide(10)
	s.shrinks(lits(-10, -7, -6), lits(-10, -6))
	s.shrinks(lits(-10, -9, -7), lits(-10, -7))
	s.shrinks(lits(-10, -9, -6), lits(-10, -6))
	s.shrinks(lits(-10, -8, -9), lits(-10, -8, -9))
	s.shrinks(lits(-10, -8, -9, -3), lits(-10, -6, -3))
	s.shrinks(lits(-10, -3, -9, -8), lits(-10, -3, -6))
	s.shrinks(lits(-10, -8, -9, -4), lits(-10, -8, -9, -4))
	s.shrinks(lits(-3, -8, -9), lits(-3, -6))
	s.shrinks(lits(-4, -8, -9), lits(-4, -8, -9))
	s.shrinks(lits(-4, -6, -5), lits(-4, -5))
	s.shrinks(lits(-10, -6, -5), lits(-10, -6, -5))
	s.shrinks(lits(-10, -6, -5, -3), lits(-10, -6, -5, -3))
	s.shrinks(lits(-10, -6, -5, -4), lits(-10, -5, -4))
	s.shrinks(lits(-10, -9, -5), lits(-10, -9, -5))
	s.shrinks(lits(-10, -9, -5, -4), lits(-10, -5, -4))
	// -3 of the reason of 8, and -4 of that of 6.
	s.shrinks(lits(-10, -8, -5, -4), lits(-10, -8, -5, -4))
	s.shrinks(lits(-3, -8, -5), lits(-3, -8, -5))
}

// P17.2: level by level, from the greatest on: what a lower level's block comes to helps no greater one, and what it had at first does.
func TestGreatestFirst(t *testing.T) {
	s := newScene(t, 20)
	s.decide(1)
	s.because(lits(2, -1), lits(3, -2), lits(4, -2))
	s.decide(5)
	s.because(lits(6, -5), lits(7, -6, -4), lits(8, -6, -2))
	s.decide(9)
	s.because(lits(10, -9, -8), lits(11, -9, -6))
	s.decide(12)
	// 7 goes by -4, which goes for -2 then.
	s.shrinks(lits(-12, -7, -6, -4, -3), lits(-12, -6, -2))
	s.shrinks(lits(-12, -3, -6, -4, -7), lits(-12, -2, -6))
	s.shrinks(lits(-12, -4, -7, -3, -6), lits(-12, -2, -6))
	// 8 would go by -2, which is not there yet.
	s.shrinks(lits(-12, -8, -6, -4, -3), lits(-12, -8, -6, -2))
	s.shrinks(lits(-12, -4, -3, -8, -6), lits(-12, -2, -8, -6))
	s.shrinks(lits(-12, -8, -6, -4, -2), lits(-12, -6, -2))
	// All levels, of which each is asked by those behind.
	s.shrinks(lits(-12, -10, -9, -8, -6, -2, -1), lits(-12, -9, -6, -1))
	s.shrinks(lits(-12, -1, -2, -6, -8, -9, -10), lits(-12, -1, -6, -9))
	s.shrinks(lits(-12, -10, -2, -8, -9, -1, -6), lits(-12, -9, -1, -6))
	s.shrinks(lits(-12, -10, -9, -6, -2, -1), lits(-12, -10, -9, -6, -1))
	s.shrinks(lits(-12, -11, -9, -8, -6, -3, -4), lits(-12, -9, -8, -6, -2))
	// A level may lie above the first one's, too.
	s.shrinks(lits(-4, -11, -9, -7, -6), lits(-4, -9, -6))
	s.shrinks(lits(-6, -11, -9, -3, -4), lits(-6, -9, -2))
	s.shrinks(lits(-8, -10, -9, -2, -1), lits(-8, -9, -1))
}

// P17.2: what goes out of a block, and what comes in, stands last on the trail, whatever its number, and wherever it stands in its clause.
func TestLastOnTrail(t *testing.T) {
	s := newScene(t, 20, lits(-9, 4), lits(-2, 7, -4), lits(-7, -4, 1), lits(-1, -9, 3), lits(-7, -3, -8, 12))
	s.decide(2)
	s.decide(8)
	s.decide(-20)
	s.back(2)
	s.decide(9)
	s.by(4, 1, 7, 2, 1, 3, 3, 4, 12, 5)
	s.decide(-13)
	s.shrinks(lits(13, -12, -1, -8, -2), lits(13, -9, -8, -2))
	s.shrinks(lits(13, -1, -7, -2), lits(13, -4, -2))
	s.shrinks(lits(13, -2, -7, -1), lits(13, -2, -4))
	s.shrinks(lits(13, -7, -1, -2), lits(13, -4, -2))
	s.shrinks(lits(13, -1, -7), lits(13, -1, -7))
	s.shrinks(lits(13, -8, -12, -1), lits(13, -8, -12, -1))
	s.minimises(lits(13, -8, -12, -2, -9, -1, -4), lits(13, -8, -2, -9))
}
