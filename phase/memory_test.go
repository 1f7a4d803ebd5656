package phase

import (
	"fmt"
	"slices"
	"testing"

	"threshing/api"
)

// kept is all that a store keeps, written out.
func kept(s *Phases) string { return fmt.Sprintf("%+v", *s) }

// some is a store that was turned, with a target row and a longer best row, and saved values of both kinds.
func some(t *testing.T) *pair {
	t.Helper()
	x := newPair(t, 6, true, 99)
	x.reach(-1, 2, -6)
	x.turn()
	x.save(-2, -4)
	x.reach(3, -5)
	x.draw()
	x.agree()
	x.like("some", telling(bits(deciding(x)), bits(x.s.Saved())), telling("+-+--+", "+-+-++"))
	return x
}

// Each call that answers an error changes nothing.
func TestErrorChangesNothing(t *testing.T) {
	x := some(t)
	was := kept(x.s)
	check := func(call string, e api.Errno) {
		t.Helper()
		if now := kept(x.s); e != api.ErrArg || now != was {
			t.Errorf("%s: %d; %s, was %s", call, e, now, was)
		}
	}
	for _, v := range far(6) {
		_, e := x.s.Decide(v)
		check(fmt.Sprint("Decide ", v), e)
	}
	for _, wrong := range wrongLits(6) {
		for _, l := range [][]api.Lit{{wrong}, {wrong, wrong}, {-3, wrong}, {wrong, -3}, {1, 2, wrong, -3}, {-1, 2, -3, 4, 5, -6, wrong}, {wrong, -1, 2, -3, 4, 5, -6}} {
			check(fmt.Sprint("Save ", l), x.s.Save(l))
			target, best, e := x.s.Reach(l)
			check(fmt.Sprint("Reach ", l), e)
			if target || best {
				t.Errorf("Reach %v: %v %v", l, target, best)
			}
		}
	}
	x.agree()
}

// What is only asked changes nothing; neither does Save of none, nor Reach of a row that is not longer, nor what is done to a copy.
func TestAskingChangesNothing(t *testing.T) {
	x := some(t)
	was := kept(x.s)
	for range 3 {
		x.agree()
		x.save()
		x.reach()
		x.reach(-1)
		x.reach(-1, 4)
		y := x.copy()
		y.save(5)
		y.reach(1, 2, 3, 4)
		y.turns(3)
		y.draw()
		if now := kept(x.s); now != was {
			t.Fatalf("%s, was %s", now, was)
		}
	}
}

// P14.5: what is handed in is only read, what lies behind its length included, and not kept.
func TestHandedInOnlyRead(t *testing.T) {
	x := some(t)
	whole := []api.Lit{-6, 2, 6, -1, 4, -4, 0, 99}
	was := slices.Clone(whole)
	l := whole[:6]
	for range 2 {
		x.save(l...)
		x.reach(l...)
		x.save(whole...)
		x.reach(whole...)
		x.reach(whole[:4]...)
		x.save(whole[:2]...)
	}
	if !slices.Equal(whole, was) {
		t.Errorf("changed: %v", whole)
	}
	x.agree()
	for i := range whole {
		whole[i] = 5
		x.agree()
		x.copy().turns(9)
	}
}

// scribble writes over a list, and over all that its memory has behind it.
func scribble(l []bool) {
	l = l[:cap(l)]
	for i := range l {
		l[i] = !l[i]
	}
}

// P14.5: what is answered is new memory: whoever writes to it changes neither the store nor another answer.
func TestAnswersAreNew(t *testing.T) {
	x := some(t)
	other := x.s.Saved()
	scribble(x.s.Saved())
	x.agree()
	if !slices.Equal(other, x.p.told()) {
		t.Errorf("Saved shares with another answer: %v", other)
	}
	y := x.copy()
	scribble(y.s.Saved())
	x.agree()
	y.agree()
	for range 9 {
		x.turn()
		scribble(x.s.Saved())
		x.agree()
		y.agree()
	}
}

// An answer stays as it was, whatever is called behind it.
func TestAnswersStay(t *testing.T) {
	x := some(t)
	first := x.s.Saved()
	x.save(2, -1)
	second := x.s.Saved()
	x.turn()
	third := x.s.Saved()
	x.turn()
	x.save(4, 5)
	fourth := x.s.Saved()
	x.turns(9)
	x.like("answers", telling(bits(first), bits(second), bits(third), bits(fourth)), telling("+-+-++", "-++-++", "------", "-+-++-"))
}

// No store has anything of another.
func TestTwoStores(t *testing.T) {
	x, y := some(t), some(t)
	x.save(4)
	x.reach(1, 2, 3, 4)
	x.turns(5)
	x.draw()
	y.agree()
	y.save(-1)
	y.turns(7)
	x.agree()
	y.agree()
	z := newPair(t, 6, true, 99)
	z.agree()
	z.turns(10)
}
