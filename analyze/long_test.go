package analyze

import (
	"runtime/debug"
	"slices"
	"testing"

	"threshing/api"
	"threshing/arena"
	"threshing/trail"
)

// longRow is an arena and a trail of one level, on which the variables from 2 on have a clause each as their reason, of the id of the variable; and a conflict behind these.
func longRow(t *testing.T, vars int, reason func(v api.Lit) api.Clause, conflict ...api.Lit) (*arena.Arena, *trail.Trail, arena.Ref) {
	t.Helper()
	a, x := arena.New(api.MaxArena), mustTrail(t, vars)
	x.Decide(1)
	for v := api.Lit(2); int(v) <= vars; v++ {
		r, _ := a.Put(int64(v), reason(v), false, 0)
		x.Assign(v, int(r))
	}
	r, e := a.Put(int64(vars+1), conflict, false, 0)
	if e != api.OK || x.Len() != vars {
		t.Fatal(e)
	}
	return a, x, r
}

// seeLong sees that -1 is learnt, of all variables but some, with a chain that has all reasons but those.
func seeLong(t *testing.T, a *arena.Arena, x *trail.Trail, r arena.Ref) {
	t.Helper()
	l, e := Learn(a, x, r)
	if e != api.OK || !slices.Equal(l.Lits, lits(-1)) || l.Level != 0 || l.LBD != 1 || len(l.Seen) != x.Vars() {
		t.Fatalf("Learn: %v, level %d, LBD %d, %d seen, %d", l.Lits, l.Level, l.LBD, len(l.Seen), e)
	}
	for i, v := range l.Seen {
		if v != i+1 {
			t.Fatalf("seen: %d at %d", v, i)
		}
	}
	h, e := Chain(a, x, nil, l.Lits, r)
	if e != api.OK || len(h) != x.Vars() {
		t.Fatalf("Chain: %d hints, %d", len(h), e)
	}
	for i, id := range h {
		if id != int64(i+2) {
			t.Fatalf("hint: %d at %d", id, i)
		}
	}
	if h, e := Chain(a, x, nil, nil, r); len(h) != 0 || e != api.ErrReason {
		t.Fatalf("Chain: %d hints, %d", len(h), e)
	}
}

// Reasons that lead back through the greatest trail there may be, one behind the other, need no stack as long.
func TestLongest(t *testing.T) {
	defer debug.SetMaxStack(debug.SetMaxStack(1 << 22))
	a, x, r := longRow(t, api.MaxVar, func(v api.Lit) api.Clause { return lits(v, 1-v) }, -1, -api.MaxVar)
	seeLong(t, a, x, r)
}

// Reasons that go two ways at each of their literals, which meet again: what is wanted by both is gone through once.
func TestLadder(t *testing.T) {
	defer debug.SetMaxStack(debug.SetMaxStack(1 << 22))
	const vars = 200001
	a, x, r := longRow(t, vars, func(v api.Lit) api.Clause { return lits(1-v, -max(1, v-2), v) }, 1-vars, -vars, -1)
	seeLong(t, a, x, r)
}

// Each reason has all literals ahead of it.
func TestDense(t *testing.T) {
	for _, vars := range []int{3, 50, 999, 1000, 1001, 1002, 1003, 2500} {
		a, x, r := longRow(t, vars, func(v api.Lit) api.Clause {
			c := lits(v)
			for w := api.Lit(1); w < v; w++ {
				c = append(c, -w)
			}
			return c
		}, -1, -api.Lit(vars))
		seeLong(t, a, x, r)
	}
}

// A conflict of most literals of a great level, which all have one and the same decided one ahead of them.
func TestWide(t *testing.T) {
	const vars = 300000
	c := api.Clause{}
	for v := api.Lit(2); v <= vars; v++ {
		c = append(c, -v)
	}
	a, x, r := longRow(t, vars, func(v api.Lit) api.Clause { return lits(-1, v) }, c...)
	seeLong(t, a, x, r)
}

// How deep the closure goes is not to be seen in what is answered: chains as long as that, one less and one more, and some that part and meet there.
func TestDepth(t *testing.T) {
	for _, vars := range []int{deepest - 1, deepest, deepest + 1, deepest + 2, deepest + 3, 2 * deepest, 2*deepest + 1, 2*deepest + 2, 2*deepest + 3} {
		a, x, r := longRow(t, vars, func(v api.Lit) api.Clause { return lits(v, 1-v) }, -1, -api.Lit(vars))
		seeLong(t, a, x, r)
		a, x, r = longRow(t, vars, func(v api.Lit) api.Clause { return lits(v, 1-v, -max(1, v-5)) }, -api.Lit(vars), -1)
		seeLong(t, a, x, r)
	}
}
