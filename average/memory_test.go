package average

import (
	"fmt"
	"testing"

	"threshing/api"
)

// kept is all that something keeps, written out.
func kept(x any) string { return fmt.Sprintf("%+v", x) }

// some is an average in the midst of its numbers.
func some(t *testing.T) *pair {
	t.Helper()
	x := newPair(t, 3)
	x.add(5, 0, most, 17, 3, 3, 1)
	return x
}

// A call that answers an error changes nothing, and what is taken in behind it is as if it had not been.
func TestErrorChangesNothing(t *testing.T) {
	x := some(t)
	was := kept(*x.a)
	for _, n := range wrongNumbers() {
		if e := x.a.Add(n); e != api.ErrArg || kept(*x.a) != was {
			t.Errorf("Add(%d): %d, %s, was %s", n, e, kept(*x.a), was)
		}
	}
	x.agree()
	y := some(t)
	for _, n := range []int64{9, 0, most, 4} {
		x.add(-1, n, most+1)
		y.add(n)
		if kept(*x.a) != kept(*y.a) {
			t.Errorf("%s, want %s", kept(*x.a), kept(*y.a))
		}
	}
}

// What is only asked changes nothing.
func TestAskingChangesNothing(t *testing.T) {
	x, y := some(t), newPair(t, 0)
	y.add(6)
	was, other := kept(*x.a), kept(*y.a)
	for _, margin := range append(wrongMargins(), 0, 99, 100, 101, 10000) {
		x.agree()
		x.above(y, margin)
		x.above(x, margin)
		Above(x.a, nil, margin)
		Above(nil, x.a, margin)
		if kept(*x.a) != was || kept(*y.a) != other {
			t.Fatalf("%s, was %s; %s, was %s", kept(*x.a), was, kept(*y.a), other)
		}
	}
	z := newTower(t, 4)
	z.rings(9)
	was = kept(*z.b)
	for range 5 {
		z.b.Round()
		Luby(7)
		row(5)
		if kept(*z.b) != was {
			t.Fatalf("%s, was %s", kept(*z.b), was)
		}
	}
}

// No average has anything of another, and no bell.
func TestTwoApart(t *testing.T) {
	x, y, z := some(t), some(t), newPair(t, 30)
	x.add(most, most, 2)
	y.agree()
	z.add(1, 2)
	x.agree()
	y.add(0)
	x.agree()
	z.agree()
	b, c, d := newTower(t, 3), newTower(t, 3), newTower(t, 1)
	for i := range 200 {
		b.tick()
		if i%2 == 0 {
			c.tick()
		}
		d.tick()
		d.tick()
	}
	like(t, "rounds", telling(b.b.Round(), c.b.Round(), d.b.Round()), telling(b.p.round, c.p.round, d.p.round))
}
