package analyze

import (
	"slices"
	"testing"

	"threshing/api"
	"threshing/arena"
	"threshing/base"
	"threshing/cnf"
	"threshing/trail"
	"threshing/watch"
)

// pigeons is the formula that so many sit each in a hole, of which there is one less.
func pigeons(n int) api.Formula {
	at := func(i, k int) api.Lit { return api.Lit(i*(n-1) + k + 1) }
	f := api.Formula{Vars: n * (n - 1)}
	for i := range n {
		c := api.Clause{}
		for k := range n - 1 {
			c = append(c, at(i, k))
			for j := range i {
				f.Clauses = append(f.Clauses, lits(-at(i, k), -at(j, k)))
			}
		}
		f.Clauses = append(f.Clauses, c)
	}
	return f
}

// watched is a search as the layers 9 to 11 have it, in which all that is learnt comes into a base by its chain.
type watched struct {
	t     *testing.T
	a     *arena.Arena
	x     *trail.Trail
	w     *watch.Watch
	b     *base.Base
	units []int64
	count int
}

// newWatched is one over clauses of two literals and more.
func newWatched(t *testing.T, f api.Formula) *watched {
	t.Helper()
	a, x := arena.New(api.MaxArena), mustTrail(t, f.Vars)
	w, _ := watch.New(a, x)
	b, e := base.New(f)
	if e != api.OK {
		t.Fatal(e)
	}
	for i, c := range f.Clauses {
		r, _ := a.Put(int64(i+1), c, false, 0)
		if _, e := w.Attach(r); e != api.OK {
			t.Fatal(e)
		}
	}
	return &watched{t: t, a: a, x: x, w: w, b: b, units: make([]int64, f.Vars+1)}
}

// run tells whether there is a model. Variables are decided false, those of the greatest numbers first.
func (y *watched) run() bool {
	y.t.Helper()
	for {
		at, bad := y.w.Propagate()
		for _, l := range y.x.Lits() {
			if v := cnf.Var(l); y.x.Level(v) == 0 && y.units[v] == 0 {
				y.unit(l)
			}
		}
		switch {
		case !bad && y.x.Len() == y.x.Vars():
			return true
		case !bad:
			v := y.x.Vars()
			for y.x.Value(api.Lit(v)) != 0 {
				v--
			}
			y.x.Decide(api.Lit(-v))
		case y.x.Levels() == 0:
			y.add(nil, at)
			return false
		default:
			y.teach(at)
		}
	}
}

// unit adds that of a literal of level 0, by the units of its reason's other literals, and that.
func (y *watched) unit(l api.Lit) {
	y.t.Helper()
	var h []int64
	r := arena.Ref(y.x.Reason(cnf.Var(l)))
	for _, m := range y.a.Lits(r) {
		if m != l {
			h = append(h, y.units[cnf.Var(m)])
		}
	}
	id, e := y.b.Add(lits(l), append(h, y.a.ID(r)), false)
	if e != api.OK {
		y.t.Fatalf("the unit %d: %d", l, e)
	}
	y.units[cnf.Var(l)] = id
}

// add adds a clause by its chain.
func (y *watched) add(c api.Clause, conflict arena.Ref) int64 {
	y.t.Helper()
	h, e := Chain(y.a, y.x, y.units, c, conflict)
	id, f := y.b.Add(c, h, len(c) > 1)
	if e != api.OK || f != api.OK {
		y.t.Fatalf("%v by %v: %d %d", c, h, e, f)
	}
	return id
}

// teach learns of a conflict, and goes on from the level back to.
func (y *watched) teach(at arena.Ref) {
	y.t.Helper()
	y.count++
	l, e := Learn(y.a, y.x, at)
	if e != api.OK {
		y.t.Fatalf("nothing is learnt of %v: %d", y.a.Lits(at), e)
	}
	id := y.add(l.Lits, at)
	y.x.Back(l.Level)
	if len(l.Lits) == 1 {
		y.units[cnf.Var(l.Lits[0])] = id
		y.x.Assign(l.Lits[0], trail.None)
		return
	}
	r, _ := y.a.Put(id, l.Lits, true, l.LBD)
	m, e := y.w.Attach(r)
	if e != api.OK || m != l.Lits[0] {
		y.t.Fatalf("%v is not unit: %d %d", l.Lits, m, e)
	}
	y.x.Assign(m, int(r))
}

// P16.5: searches by the layers that there are, of pigeons that all have to sit, and of such of which the first one need not.
func TestWatched(t *testing.T) {
	for n := 3; n <= 9; n++ {
		f := pigeons(n)
		y := newWatched(t, f)
		if y.run() {
			t.Errorf("%d pigeons sit", n)
		}
		if _, empty := y.b.Empty(); !empty || n == 9 && y.count < 300 {
			t.Errorf("%d pigeons: %v, %d conflicts", n, empty, y.count)
		}
		f.Clauses = slices.DeleteFunc(f.Clauses, func(c api.Clause) bool { return c[0] == 1 })
		y = newWatched(t, f)
		if !y.run() {
			t.Errorf("%d pigeons but one do not sit", n)
		}
		if m, _ := y.x.Model(); !cnf.Holds(f, m) {
			t.Errorf("%d pigeons but one: %v", n, m)
		}
	}
}
