package minimise

import (
	"fmt"
	"math/rand"
	"slices"
	"testing"

	"threshing/analyze"
	"threshing/api"
	"threshing/arena"
	"threshing/base"
	"threshing/cnf"
	"threshing/trail"
	"threshing/truth"
)

// left is what is left of c by the calls, one behind the other in both orders, each held against the words, and against P17.4 but for the chains; or the error of both.
func (s *scene) left(c api.Clause) ([]api.Clause, api.Errno) {
	m, e := s.minimise(c)
	d, f := s.shrink(c)
	if e != f {
		s.t.Fatalf("%v under %s: %d, %d", c, s.told(), e, f)
	}
	if e != api.OK {
		return nil, e
	}
	md, _ := s.shrink(m)
	dm, _ := s.minimise(d)
	s.isPart(c, m)
	s.isPart(d, dm)
	s.isLess(c, d)
	s.isLess(m, md)
	return []api.Clause{m, d, md, dm}, e
}

// isPart sees that d is a part of c, in c's order.
func (s *scene) isPart(c, d api.Clause) {
	part := slices.DeleteFunc(slices.Clone(c), func(l api.Lit) bool { return !slices.Contains(d, l) })
	if !slices.Equal(part, d) {
		s.t.Fatalf("%v is no part of %v under %s", d, c, s.told())
	}
	s.isLess(c, d)
}

// isLess sees that d is false and begins as c does, has no more literals, and is of none but c's levels.
func (s *scene) isLess(c, d api.Clause) {
	if len(d) == 0 || d[0] != c[0] || len(d) > len(c) {
		s.t.Fatalf("%v is left of %v under %s", d, c, s.told())
	}
	for i, l := range d {
		had := slices.ContainsFunc(c, func(m api.Lit) bool { return s.levelOf(m) == s.levelOf(l) })
		if s.at(-l) < 0 || slices.Contains(d[:i], l) || !had {
			s.t.Fatalf("%v is left of %v under %s", d, c, s.told())
		}
	}
}

// unitsFor is the clauses that were put, under their ids, with a unit behind them for each literal of level 0; and where these units are.
func (s *scene) unitsFor() (api.Formula, []int64) {
	f := api.Formula{Vars: s.x.Vars()}
	for _, r := range s.refs {
		f.Clauses = append(f.Clauses, s.live[r])
	}
	units := make([]int64, s.x.Vars()+1)
	for _, p := range s.row {
		if p.level == 0 {
			f.Clauses = append(f.Clauses, lits(p.lit))
			units[plainVar(p.lit)] = int64(len(f.Clauses))
		}
	}
	return f, units
}

// follows sees that c, of which a conflict at r has a chain, follows by that, and by propagation.
func (s *scene) follows(f api.Formula, units []int64, c api.Clause, r arena.Ref) {
	s.t.Helper()
	chain := s.plainChain(units, c, r)
	if chain == nil {
		s.t.Fatalf("%v has no chain of %v under %s", c, s.live[r], s.told())
	}
	if h, e := analyze.Chain(s.a, s.x, units, c, r); e != api.OK || !slices.Equal(h, chain) {
		s.t.Fatalf("%v of %v under %s: %v %d, want %v", c, s.live[r], s.told(), h, e, chain)
	}
	b, e := base.New(f)
	if e != api.OK {
		s.t.Fatal(e)
	}
	if _, e := b.Add(c, chain, true); e != api.OK {
		s.t.Fatalf("%v does not follow by %v from %v: %d", c, chain, f.Clauses, e)
	}
	if !plainFollows(f.Clauses, c) {
		s.t.Fatalf("%v does not follow from %v", c, f.Clauses)
	}
}

// teaches holds all of the chapter of what is learnt of a conflict, and of other clauses: of such as have a chain, all that is left has one. It tells whether something was learnt, and how much shorter it is.
func (s *scene) teaches(r arena.Ref, others ...api.Clause) (bool, int) {
	s.t.Helper()
	f, units := s.unitsFor()
	l, e := analyze.Learn(s.a, s.x, r)
	if e == api.OK {
		others = append(others, l.Lits)
	}
	short := 0
	for _, c := range others {
		left, e := s.left(c)
		if e != api.OK || s.plainChain(units, c, r) == nil {
			continue
		}
		for _, d := range left {
			s.follows(f, units, d, r)
			short = len(c) - len(d)
		}
	}
	return e == api.OK, short
}

// smallClauses are all clauses of variables up to vars, one literal to all, no two of one variable.
func smallClauses(vars int) []api.Clause {
	all := []api.Clause{nil}
	for v := api.Lit(1); int(v) <= vars; v++ {
		for _, c := range slices.Clone(all) {
			all = append(all, append(slices.Clone(c), -v), append(lits(v), c...))
		}
	}
	return all[1:]
}

// sink propagates, and decides the least variable that has no value true, till a clause is false or all have values. (Of all sets of clauses there are, that is all ways of deciding: other variables and values only have other names.)
func (s *scene) sink() {
	for v := api.Lit(1); int(v) <= s.x.Vars(); v++ {
		if _, bad := s.propagate(); bad {
			return
		}
		if s.at(v) < 0 && s.at(-v) < 0 {
			s.decide(v)
		}
	}
	s.propagate()
}

// P17.1, P17.2, P17.4: all sets of at most three clauses over four variables, whatever is decided.
func TestAllSmall(t *testing.T) {
	learnt, shorter := 0, 0
	var see func(clauses, more []api.Clause)
	see = func(clauses, more []api.Clause) {
		s := newScene(t, 4, clauses...)
		s.sink()
		for _, at := range s.conflicts() {
			ok, short := s.teaches(at)
			if ok {
				learnt++
			}
			if short > 0 {
				shorter++
			}
		}
		if len(clauses) == 3 {
			return
		}
		for i, c := range more {
			see(append(slices.Clone(clauses), c), more[:i])
		}
	}
	see(nil, smallClauses(4))
	if learnt < 1000 || shorter < 10 {
		t.Errorf("%d learnt, %d shorter", learnt, shorter)
	}
}

// move is one by which a right trail grows: a literal that is decided, or assigned by None, or by a clause that is unit.
type move struct {
	lit    api.Lit
	reason int
	decide bool
}

// moves are all there are (but that a literal below 0 is not assigned by None: by another name it is).
func (s *scene) moves() []move {
	var all []move
	for v := api.Lit(1); int(v) <= s.x.Vars(); v++ {
		if s.at(v) < 0 && s.at(-v) < 0 {
			all = append(all, move{v, trail.None, true}, move{-v, trail.None, true}, move{v, trail.None, false})
		}
	}
	for _, r := range s.refs {
		if n, l, right := s.state(s.live[r]); !right && n == 1 {
			all = append(all, move{l, int(r), false})
		}
	}
	return all
}

func (s *scene) make(m move) {
	if m.decide {
		s.decide(m.lit)
	} else {
		s.assign(m.lit, m.reason)
	}
}

// remake makes the trail anew, by all of its moves but the last one.
func (s *scene) remake() {
	was := s.row[:len(s.row)-1]
	s.x, s.row, s.levels = mustTrail(s.t, s.x.Vars()), nil, 0
	for _, p := range was {
		s.make(move{p.lit, p.reason, p.level > s.levels})
	}
}

// rows are all rows of literals of c, in any order, each at most once.
func rows(c api.Clause) []api.Clause {
	all := []api.Clause{nil}
	for i, l := range c {
		for _, d := range rows(slices.Delete(slices.Clone(c), i, i+1)) {
			all = append(all, append(lits(l), d...))
		}
	}
	return all
}

// P17.1, P17.2: all rows of literals that are false, under all right trails of some clauses, however they came to be; also such as were put too late, or are not closed.
func TestAllTrails(t *testing.T) {
	found := map[string]int{}
	for _, clauses := range [][]api.Clause{
		{lits(-1, 2), lits(-2, 3), lits(-1, -2, -3), lits(-3, 4), lits(-4, -1, -2)},
		{lits(-1, -2, 3), lits(-3, 1, 2), lits(-3, -2), lits(-1, 4, 2), lits(-4, 2, -1)},
		{lits(1), lits(-1, 2), lits(-2, -1, 3), lits(-3, -2), lits(-4, -3)},
		{lits(3, 3), lits(-3, -2, -2, 1), lits(-1, -2, -1), lits(2, -1, 4)},
	} {
		s := newScene(t, 4, clauses...)
		var grow func()
		grow = func() {
			all := s.moves()
			if len(all) == 0 {
				s.allRows(found)
			}
			for _, m := range all {
				s.make(m)
				grow()
				s.remake()
			}
		}
		grow()
	}
	if len(found) < 6 || found["Minimise true"] < 1000 || found["Shrink true"] < 1000 {
		t.Error(found)
	}
}

// allRows holds both calls against the words for all rows.
func (s *scene) allRows(found map[string]int) {
	s.t.Helper()
	negations := api.Clause{}
	for _, p := range s.row {
		negations = append(negations, -p.lit)
	}
	for _, c := range rows(negations) {
		left, e := s.left(c)
		if e != api.OK {
			found["wrong"]++
			continue
		}
		found[fmt.Sprint("Minimise ", len(left[0]) < len(c))]++
		found[fmt.Sprint("Shrink ", len(left[1]) < len(c))]++
		if len(left[1]) < len(left[0]) {
			found["Shrink alone"]++
		}
	}
}

// drawnOf is a clause of so many literals, seldom with two of one variable.
func drawnOf(r *rand.Rand, vars, n int) api.Clause {
	c := api.Clause{}
	for _, v := range r.Perm(vars)[:min(n, vars)] {
		c = append(c, drawnSign(r, v+1))
	}
	if r.Intn(12) == 0 {
		c = append(c, c[r.Intn(len(c))], drawnSign(r, 1+r.Intn(vars)))
	}
	return c
}

func drawnSign(r *rand.Rand, v int) api.Lit {
	if r.Intn(2) == 0 {
		return api.Lit(-v)
	}
	return api.Lit(v)
}

// drawnMove lets the trail grow, mostly by what is unit; seldom it goes back.
func drawnMove(r *rand.Rand, s *scene) {
	all := s.moves()
	m := all[r.Intn(len(all))]
	if last := all[len(all)-1]; last.reason != trail.None && r.Intn(6) > 0 {
		m = last
	}
	if m.reason == trail.None && r.Intn(5) > 0 {
		m.decide = len(s.row) > 0 || r.Intn(2) == 0
	}
	s.make(m)
	if r.Intn(40) == 0 {
		s.back(r.Intn(s.levels + 1))
	}
}

// drawnRow is some of the trail's negations, mostly such that they may be made shorter.
func drawnRow(r *rand.Rand, s *scene) api.Clause {
	c := api.Clause{}
	for _, i := range r.Perm(len(s.row))[:r.Intn(len(s.row)+1)] {
		l := -s.row[i].lit
		if len(c) == 0 || s.levelOf(l) != s.levelOf(c[0]) || r.Intn(200) == 0 {
			c = append(c, l)
		}
	}
	if r.Intn(20) == 0 {
		c = append(c, drawnSign(r, 1+r.Intn(s.x.Vars()+1)))
	}
	return c
}

// drawnScene has clauses and a right trail, which is mostly false somewhere.
func drawnScene(t *testing.T, r *rand.Rand, vars int) *scene {
	t.Helper()
	s := newScene(t, vars)
	longer := r.Intn(3)
	for range (1 + longer) * (vars + r.Intn(4*vars)) {
		s.put(drawnOf(r, vars, 1+longer+r.Intn(3))...)
	}
	for len(s.conflicts()) == 0 && len(s.row) < vars {
		drawnMove(r, s)
	}
	return s
}

// Drawn clauses and right trails: what is learnt, and other rows.
func TestDrawn(t *testing.T) {
	learnt, shorter := 0, map[int]int{}
	for seed := range 3000 {
		r := rand.New(rand.NewSource(int64(seed)))
		s := drawnScene(t, r, 3+r.Intn(22))
		others := []api.Clause{nil}
		for range 8 {
			others = append(others, drawnRow(r, s))
		}
		for _, at := range s.conflicts() {
			ok, short := s.teaches(at, others...)
			if ok {
				learnt++
			}
			shorter[min(short, 3)]++
		}
	}
	if learnt < 2000 || shorter[1] < 100 || shorter[2] < 20 || shorter[3] < 10 {
		t.Errorf("%d learnt: %v", learnt, shorter)
	}
}

// P17.4: what is left is true in every model of the clauses.
func TestLeftFollows(t *testing.T) {
	for seed := range 400 {
		r := rand.New(rand.NewSource(int64(seed)))
		s := drawnScene(t, r, 4+r.Intn(6))
		f, _ := s.unitsFor()
		for _, at := range s.conflicts() {
			l, e := analyze.Learn(s.a, s.x, at)
			if e != api.OK {
				continue
			}
			left, _ := s.left(l.Lits)
			for _, c := range left {
				if follows, e := truth.Implies(f, c); !follows || e != api.OK {
					t.Fatalf("%v does not follow from %v: %d", c, f.Clauses, e)
				}
			}
		}
	}
}

// The same arena and trail have the same answers, over and over.
func TestSameTwice(t *testing.T) {
	run := func() string {
		out := ""
		for seed := range 100 {
			r := rand.New(rand.NewSource(int64(seed)))
			s := drawnScene(t, r, 20)
			for range 10 {
				c := drawnRow(r, s)
				m, e := Minimise(s.a, s.x, c)
				d, f := Shrink(s.a, s.x, c)
				out += fmt.Sprintln(c, m, e, d, f)
			}
		}
		return out
	}
	if a, b := run(), run(); a != b || len(a) < 1000 {
		t.Errorf("%s is not %s", a, b)
	}
}

// Nothing is promised of arenas and trails that are not right; but every call ends, and none panics, and beside an error there is nothing.
func TestNotRight(t *testing.T) {
	for seed := range 5000 {
		r := rand.New(rand.NewSource(int64(seed)))
		vars := 1 + r.Intn(9)
		a, x := arena.New(1000), mustTrail(t, vars)
		for range 1 + r.Intn(20) {
			c := drawnOf(r, vars+r.Intn(3), 1+r.Intn(4))
			if r.Intn(10) == 0 {
				c = append(c, []api.Lit{leastLit, greatestLit, -greatestLit}[r.Intn(3)])
			}
			a.Put(int64(1+r.Intn(9)), c, false, 0)
		}
		refs := a.Refs()
		for range 3 * vars {
			drawnNotRight(r, a, x, refs)
		}
		for range r.Intn(4) {
			a.Kill(refs[r.Intn(len(refs))])
		}
		for range 10 {
			seeNotRight(t, r, a, x)
		}
	}
}

// drawnNotRight puts a literal on the trail by something that is mostly no reason.
func drawnNotRight(r *rand.Rand, a *arena.Arena, x *trail.Trail, refs []arena.Ref) {
	l := drawnSign(r, 1+r.Intn(x.Vars()))
	at := refs[r.Intn(len(refs))]
	switch r.Intn(8) {
	case 0, 1:
		x.Decide(l)
	case 2:
		x.Assign(l, []int{trail.None, 1, 50, 1 << 30, 1 << 32, 1<<63 - 1}[r.Intn(6)])
	case 3, 4:
		x.Assign(l, int(at))
	default:
		if m := a.Lit(at, r.Intn(4)); m != 0 {
			x.Assign(m, int(at))
		}
	}
}

func seeNotRight(t *testing.T, r *rand.Rand, a *arena.Arena, x *trail.Trail) {
	t.Helper()
	c := api.Clause{}
	for _, l := range x.Lits() {
		first := len(c) == 0 || x.Level(plainVar(l)) != x.Level(plainVar(c[0]))
		if first && r.Intn(4) > 0 || r.Intn(30) == 0 {
			c = append(c, -l)
		}
	}
	rest := c[min(1, len(c)):]
	r.Shuffle(len(rest), func(i, k int) { rest[i], rest[k] = rest[k], rest[i] })
	if d, e := Minimise(a, x, c); e != api.OK && (e != api.ErrState || len(d) > 0) {
		t.Fatalf("Minimise: %v beside %d", d, e)
	}
	if d, e := Shrink(a, x, c); e != api.OK && (e != api.ErrState || len(d) > 0) {
		t.Fatalf("Shrink: %v beside %d", d, e)
	}
}

// Reasons that go round: each of two literals has the other's clause, or its own alone.
func TestRound(t *testing.T) {
	a, x := arena.New(1000), mustTrail(t, 6)
	r, _ := a.Put(1, lits(-2, 1), false, 0)
	q, _ := a.Put(2, lits(-1, 2), false, 0)
	own, _ := a.Put(3, lits(-3, 3, -3, -4), false, 0)
	both, _ := a.Put(4, lits(-2, -1, 5), false, 0)
	x.Decide(4)
	x.Assign(1, int(r))
	x.Assign(2, int(q))
	x.Assign(3, int(own))
	x.Assign(5, int(both))
	x.Decide(6)
	for _, c := range rows(lits(-1, -2, -3, -4, -5)) {
		for _, call := range []func(*arena.Arena, *trail.Trail, api.Clause) (api.Clause, api.Errno){Minimise, Shrink} {
			if d, e := call(a, x, append(lits(-6), c...)); e != api.OK || len(d) == 0 || d[0] != -6 {
				t.Fatalf("%v: %v %d", c, d, e)
			}
		}
	}
}

// solving learns of each conflict, over clauses of a base into which all that is learnt comes, made shorter, by its chain, till it is at an end.
type solving struct {
	*scene
	b     *base.Base
	units []int64
	r     *rand.Rand
	less  int
}

func newSolving(t *testing.T, f api.Formula, r *rand.Rand) *solving {
	t.Helper()
	b, e := base.New(f)
	if e != api.OK {
		t.Fatal(e)
	}
	y := &solving{newScene(t, f.Vars), b, make([]int64, f.Vars+1), r, 0}
	for i, c := range f.Clauses {
		if _, both := cnf.Normal(c); !both {
			y.lay(int64(i+1), c)
		}
	}
	return y
}

// settle gives each literal of level 0 its unit, by its reason.
func (y *solving) settle() {
	y.t.Helper()
	for p, q := range y.row {
		others, _ := y.others(p)
		others, _ = cnf.Normal(others)
		if q.level > 0 || y.units[plainVar(q.lit)] > 0 {
			continue
		}
		var h []int64
		for _, l := range others {
			h = append(h, y.units[plainVar(l)])
		}
		y.units[plainVar(q.lit)] = y.add(lits(q.lit), append(h, y.a.ID(arena.Ref(q.reason))))
	}
}

func (y *solving) add(c api.Clause, hints []int64) int64 {
	y.t.Helper()
	id, e := y.b.Add(c, hints, len(c) > 1)
	if e != api.OK {
		y.t.Fatalf("%v by %v under %s: %d", c, hints, y.told(), e)
	}
	return id
}

// lay puts a clause that the base has, under its id.
func (y *solving) lay(id int64, c api.Clause) arena.Ref {
	y.t.Helper()
	r, e := y.a.Put(id, c, false, 0)
	if e != api.OK {
		y.t.Fatal(e)
	}
	y.refs = append(y.refs, r)
	y.live[r] = slices.Clone(c)
	return r
}

// run tells whether there is a model.
func (y *solving) run() bool {
	y.t.Helper()
	for {
		at, bad := y.propagate()
		y.settle()
		switch {
		case !bad && len(y.row) == y.x.Vars():
			return true
		case !bad:
			l := drawnSign(y.r, 1+y.r.Intn(y.x.Vars()))
			for y.at(l) >= 0 || y.at(-l) >= 0 {
				l = drawnSign(y.r, 1+y.r.Intn(y.x.Vars()))
			}
			y.decide(l)
		case y.levels == 0:
			y.add(nil, y.plainChain(y.units, nil, at))
			return false
		default:
			y.teach(at)
		}
	}
}

// teach learns of the conflict, makes it shorter in one of the ways, goes back, and puts it.
func (y *solving) teach(at arena.Ref) {
	y.t.Helper()
	l, e := analyze.Learn(y.a, y.x, at)
	if e != api.OK {
		y.t.Fatalf("nothing is learnt of %v under %s: %d", y.live[at], y.told(), e)
	}
	left, _ := y.left(l.Lits)
	c := left[y.r.Intn(len(left))]
	y.less += len(l.Lits) - len(c)
	chain := y.plainChain(y.units, c, at)
	if chain == nil {
		y.t.Fatalf("%v has no chain under %s", c, y.told())
	}
	id := y.add(c, chain)
	level := 0
	for _, m := range c[1:] {
		level = max(level, y.levelOf(m))
	}
	y.back(level)
	r := y.lay(id, c)
	if n, first, right := y.state(c); right || n != 1 || first != c[0] {
		y.t.Fatalf("%v is not unit under %s", c, y.told())
	}
	y.assign(c[0], int(r))
}

// P17.4: whole searches: all that is learnt and made shorter follows by its chain, and at the end the answer is right.
func TestSearches(t *testing.T) {
	found, less := map[bool]int{}, 0
	for seed := range 500 {
		r := rand.New(rand.NewSource(int64(seed)))
		f := api.Formula{Vars: 5 + r.Intn(11)}
		for range f.Vars * (32 + r.Intn(20)) / 10 {
			f.Clauses = append(f.Clauses, drawnOf(r, f.Vars, 2+r.Intn(2)+r.Intn(2)))
		}
		y := newSolving(t, f, r)
		sat := y.run()
		found[sat]++
		less += y.less
		if _, want, e := truth.Find(f); want != sat || e != api.OK {
			t.Fatalf("%v: %v, want %v, %d", f, sat, want, e)
		}
	}
	if found[true] < 50 || found[false] < 50 || less < 50 {
		t.Error(found, less)
	}
}

// P17.4: so many pigeons sit each in a hole of its own, of which there is one less: all that is learnt on the way follows by its chain, made shorter or not.
func TestPigeons(t *testing.T) {
	for n := 3; n <= 7; n++ {
		at := func(i, k int) api.Lit { return api.Lit(i*(n-1) + k + 1) }
		f := api.Formula{Vars: n * (n - 1)}
		for i := range n {
			c := api.Clause{}
			for k := range n - 1 {
				c = append(c, at(i, k))
				for j := range i {
					f.Clauses = append(f.Clauses, lits(-at(i, k), -at(j, k)))
				}
			}
			f.Clauses = append(f.Clauses, c)
		}
		for seed := range 3 {
			y := newSolving(t, f, rand.New(rand.NewSource(int64(seed))))
			if y.run() {
				t.Errorf("%d pigeons sit", n)
			}
			if _, empty := y.b.Empty(); !empty || n == 7 && (y.less < 1000 || len(y.refs) < 1000) {
				t.Errorf("%d pigeons: %v, %d clauses, %d literals less", n, empty, len(y.refs), y.less)
			}
		}
	}
}

// Whatever clauses there are, and however a right trail came to be, what is left is right.
func FuzzMinimise(f *testing.F) {
	f.Add(uint8(7), []byte{1, 255, 2, 0, 255, 3, 0, 254, 253, 4, 0, 252, 251, 6, 0, 252, 250, 7, 0, 250, 249, 0, 0, 9, 0, 0, 0, 0, 0})
	f.Add(uint8(3), []byte{255, 2, 0, 254, 3, 0, 253, 255, 0, 0, 1, 0, 1, 2, 3, 4})
	f.Fuzz(func(t *testing.T, vars uint8, bytes []byte) {
		s := newScene(t, 1+int(vars)%12)
		next := func() int {
			if len(bytes) == 0 {
				return 0
			}
			b := bytes[0]
			bytes = bytes[1:]
			return int(int8(b))
		}
		for len(s.refs) < 40 && len(bytes) > 0 {
			c := api.Clause{}
			for l := next(); l != 0 && len(c) < 9; l = next() {
				c = append(c, api.Lit(l%(s.x.Vars()+1)))
			}
			if len(c) == 0 {
				break
			}
			s.put(slices.DeleteFunc(c, func(l api.Lit) bool { return l == 0 })...)
		}
		for len(s.row) < s.x.Vars() && len(s.conflicts()) == 0 {
			all := s.moves()
			s.make(all[(next()+128)%len(all)])
		}
		r := rand.New(rand.NewSource(int64(next())))
		for range 6 {
			s.left(drawnRow(r, s))
		}
		for _, at := range s.conflicts() {
			s.teaches(at, drawnRow(r, s), drawnRow(r, s))
		}
	})
}
