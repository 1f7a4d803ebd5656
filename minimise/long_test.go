package minimise

import (
	"runtime/debug"
	"slices"
	"testing"

	"threshing/api"
	"threshing/arena"
	"threshing/trail"
)

// longRow is an arena and a trail of one level, on which the variables from 2 on have a clause each as their reason; and one variable more, decided behind these.
func longRow(t *testing.T, vars int, reason func(v api.Lit) api.Clause) (*arena.Arena, *trail.Trail) {
	t.Helper()
	a, x := arena.New(api.MaxArena), mustTrail(t, vars+1)
	x.Decide(1)
	for v := api.Lit(2); int(v) <= vars; v++ {
		r, _ := a.Put(int64(v), reason(v), false, 0)
		x.Assign(v, int(r))
	}
	if e := x.Decide(api.Lit(vars + 1)); e != api.OK || x.Len() != vars+1 {
		t.Fatal(e)
	}
	return a, x
}

// down are the negations of so many variables, from that one on down.
func down(from, n int) api.Clause {
	c := make(api.Clause, n)
	for i := range c {
		c[i] = api.Lit(i - from)
	}
	return c
}

func seeMinimised(t *testing.T, a *arena.Arena, x *trail.Trail, c, want api.Clause) {
	t.Helper()
	if d, e := Minimise(a, x, c); e != api.OK || !slices.Equal(d, want) {
		t.Errorf("Minimise of %d literals: %d, want %d (%v), %d", len(c), len(d), len(want), want[:min(len(want), 5)], e)
	}
}

func seeShrunk(t *testing.T, a *arena.Arena, x *trail.Trail, c, want api.Clause) {
	t.Helper()
	if d, e := Shrink(a, x, c); e != api.OK || !slices.Equal(d, want) {
		t.Errorf("Shrink of %d literals: %d, want %d (%v), %d", len(c), len(d), len(want), want[:min(len(want), 5)], e)
	}
}

// seeLong sees that all come to the first decided one, and that nothing goes without it.
func seeLong(t *testing.T, a *arena.Arena, x *trail.Trail) {
	t.Helper()
	first := api.Lit(-x.Vars())
	last := first + 1
	seeMinimised(t, a, x, lits(first, last, -1), lits(first, -1))
	seeMinimised(t, a, x, lits(first, -1, last), lits(first, -1))
	seeMinimised(t, a, x, lits(first, last), lits(first, last))
	seeMinimised(t, a, x, append(lits(first), down(x.Vars()-1, x.Vars()-1)...), lits(first, -1))
	seeShrunk(t, a, x, lits(first, last, -1), lits(first, -1))
	seeShrunk(t, a, x, append(lits(first), down(x.Vars()-1, x.Vars()-1)...), lits(first, -1))
}

// Reasons that lead back through the greatest trail there may be, one behind the other, need no stack as long.
func TestLongest(t *testing.T) {
	defer debug.SetMaxStack(debug.SetMaxStack(1 << 22))
	a, x := longRow(t, api.MaxVar-1, func(v api.Lit) api.Clause { return lits(v, 1-v) })
	first, last := api.Lit(-api.MaxVar), api.Lit(1-api.MaxVar)
	seeMinimised(t, a, x, lits(first, last, -1), lits(first, -1))
	seeMinimised(t, a, x, lits(first, last), lits(first, last))
	seeShrunk(t, a, x, lits(first, last, -1), lits(first, -1))
	seeShrunk(t, a, x, lits(first, last), lits(first, last))
}

// Reasons that go two ways at each of their literals, which meet again: what is asked by both is gone through once.
func TestLadder(t *testing.T) {
	defer debug.SetMaxStack(debug.SetMaxStack(1 << 22))
	for _, ways := range []func(v api.Lit) api.Clause{
		func(v api.Lit) api.Clause { return lits(1-v, -max(1, v-2), v) },
		func(v api.Lit) api.Clause { return lits(-max(1, v-2), v, 1-v) },
		func(v api.Lit) api.Clause { return lits(v, -max(1, v-700), 1-v, -max(1, v-1500), -max(1, v-1000)) },
	} {
		a, x := longRow(t, 60000, ways)
		seeLong(t, a, x)
	}
}

// Each reason has all literals ahead of it.
func TestDense(t *testing.T) {
	for _, vars := range []int{3, 50, 999, 1000, 1001, 1002, 1003, 2500} {
		a, x := longRow(t, vars, func(v api.Lit) api.Clause { return append(lits(v), down(int(v)-1, int(v)-1)...) })
		seeLong(t, a, x)
	}
}

// How deep the closure goes is not to be seen in what is answered: reasons as long as that, one less and one more; some that part and meet there; some that come to one that is not implied.
func TestDepth(t *testing.T) {
	var all []int
	for _, n := range []int{deepest, 2 * deepest, 3 * deepest} {
		all = append(all, n-3, n-2, n-1, n, n+1, n+2, n+3, n+4)
	}
	for _, vars := range all {
		a, x := longRow(t, vars, func(v api.Lit) api.Clause { return lits(v, 1-v) })
		seeLong(t, a, x)
		a, x = longRow(t, vars, func(v api.Lit) api.Clause { return lits(v, 1-v, -max(1, v-5)) })
		seeLong(t, a, x)
		a, x = longRow(t, vars, func(v api.Lit) api.Clause { return lits(v, -max(1, v-500), -max(1, v-999), 1-v) })
		seeLong(t, a, x)
	}
}

// A row of reasons, and at each place of the deepest ones another way, which is implied or not.
func TestDepthAside(t *testing.T) {
	for _, aside := range []int{deepest - 2, deepest - 1, deepest, deepest + 1, 2*deepest - 1, 2 * deepest, 2*deepest + 1} {
		for _, held := range []bool{false, true} {
			const vars = 3*deepest + 5
			// 2 is decided, too; 3 by 2 alone.
			a, x := arena.New(api.MaxArena), mustTrail(t, vars+1)
			x.Decide(1)
			x.Decide(2)
			for v := api.Lit(3); v <= vars; v++ {
				c := lits(v, 1-v)
				switch {
				case v == 3:
					c = lits(-2, v)
				case v == 4:
					c = lits(-1, v)
				case int(v) == vars-aside:
					c = lits(v, 1-v, -3)
				}
				r, _ := a.Put(int64(v), c, false, 0)
				x.Assign(v, int(r))
			}
			x.Decide(vars + 1)
			c := lits(-vars-1, -vars, -1)
			if held {
				seeMinimised(t, a, x, append(c, -2), lits(-vars-1, -1, -2))
			} else {
				seeMinimised(t, a, x, c, c)
			}
		}
	}
}

// A row of reasons, and at its end one that has very many others, each of which leads on: what led there is not gone through again for each.
func TestWideDeep(t *testing.T) {
	const wide, vars = 100000, 2*100000 + 1000
	for at := deepest - 5; at < deepest+3; at++ {
		a, x := longRow(t, vars, func(v api.Lit) api.Clause {
			switch {
			case v <= wide+1:
				return lits(v, -1)
			case v <= 2*wide+1:
				return lits(v, wide-v)
			case int(v) == vars-at:
				return append(down(2*wide+1, wide), v)
			}
			return lits(v, 1-v)
		})
		seeMinimised(t, a, x, lits(-vars-1, -vars, -1), lits(-vars-1, -1))
	}
}

// Blocks of very many literals, which all have one and the same decided one ahead of them.
func TestWide(t *testing.T) {
	const vars = 300000
	a, x := longRow(t, vars, func(v api.Lit) api.Clause { return lits(-1, v) })
	c := append(lits(-vars-1), down(vars, vars)...)
	seeMinimised(t, a, x, c, lits(-vars-1, -1))
	seeShrunk(t, a, x, c, lits(-vars-1, -1))
	seeMinimised(t, a, x, c[:vars], c[:vars])
	seeShrunk(t, a, x, c[:vars], lits(-vars-1, -1))
}

// Very many levels, each with a block of two, or of one.
func TestManyLevels(t *testing.T) {
	const levels = 100000
	a, x := arena.New(api.MaxArena), mustTrail(t, 2*levels+1)
	c, one, two := lits(-2*levels-1), lits(-2*levels-1), lits(-2*levels-1)
	for v := api.Lit(1); v < 2*levels; v += 2 {
		x.Decide(v)
		r, _ := a.Put(int64(v), lits(v+1, -v), false, 0)
		x.Assign(v+1, int(r))
		c = append(c, -v-1, -v)
		one, two = append(one, -v), append(two, -v-1)
	}
	x.Decide(2*levels + 1)
	seeMinimised(t, a, x, c, one)
	seeShrunk(t, a, x, c, one)
	seeMinimised(t, a, x, two, two)
	seeShrunk(t, a, x, two, two)
}

// Reasons that go round, of a trail that is not right, as long as the closure goes deep, and longer: every call ends.
func TestLongRound(t *testing.T) {
	defer debug.SetMaxStack(debug.SetMaxStack(1 << 22))
	for _, vars := range []int{2, 3, deepest - 1, deepest, deepest + 1, deepest + 2, 2*deepest + 1, 50000} {
		a, x := arena.New(api.MaxArena), mustTrail(t, vars+1)
		x.Decide(1)
		for v := api.Lit(2); int(v) <= vars; v++ {
			ahead := v + 1
			if int(ahead) > vars {
				ahead = 2
			}
			r, _ := a.Put(int64(v), lits(v, -ahead), false, 0)
			x.Assign(v, int(r))
		}
		x.Decide(api.Lit(vars + 1))
		c := append(lits(api.Lit(-vars-1)), down(vars, vars)...)
		for _, d := range []api.Clause{c, c[:2], c[:len(c)-1], c[:(len(c)+1)/2], {c[0], -1}} {
			if d, e := Minimise(a, x, d); e != api.OK || len(d) == 0 {
				t.Errorf("Minimise of %d literals: %d", len(d), e)
			}
			if d, e := Shrink(a, x, d); e != api.OK || len(d) == 0 {
				t.Errorf("Shrink of %d literals: %d", len(d), e)
			}
		}
	}
}
