package analyze

import (
	"fmt"
	"math/rand"
	"slices"
	"testing"

	"threshing/api"
	"threshing/arena"
	"threshing/base"
	"threshing/cnf"
	"threshing/trail"
	"threshing/truth"
)

// unitsFor is the formula of the clauses that were put, under their ids, with a unit behind them for each literal of level 0; and where these units are.
func (s *scene) unitsFor() (api.Formula, []int64) {
	f := api.Formula{Vars: s.x.Vars()}
	for _, r := range s.refs {
		f.Clauses = append(f.Clauses, s.live[r])
	}
	units := make([]int64, s.x.Vars()+1)
	for _, p := range s.row {
		if p.level == 0 {
			f.Clauses = append(f.Clauses, lits(p.lit))
			units[plainVar(p.lit)] = int64(len(f.Clauses))
		}
	}
	return f, units
}

// follows holds all of P16.5 of a conflict: what is learnt is false, unit when the trail is back, and follows by its chain; so does each other clause that has one.
func (s *scene) follows(r arena.Ref, others ...api.Clause) (Learned, bool) {
	s.t.Helper()
	f, units := s.unitsFor()
	l, e := s.learn(r)
	if e == api.OK {
		s.asserts(l)
		if _, e := s.hints(f, units, l.Lits, r); e != api.OK {
			s.t.Fatalf("%v is learnt of %v under %s, and has no chain: %d", l.Lits, s.live[r], s.told(), e)
		}
	}
	for _, c := range others {
		s.hints(f, units, c, r)
		s.chain(nil, c, r)
	}
	return l, e == api.OK
}

// asserts sees that what is learnt is false under the trail, and unit at its level and at all between that and the one that is now.
func (s *scene) asserts(l Learned) {
	s.t.Helper()
	for i, m := range l.Lits {
		if s.value(m) != -1 || slices.Contains(l.Lits[:i], m) {
			s.t.Fatalf("%v is learnt under %s", l.Lits, s.told())
		}
		level := s.row[s.at(-m)].level
		if i == 0 && level != s.levels || i > 0 && (level == 0 || level > l.Level) || l.Level >= s.levels {
			s.t.Fatalf("%v of level %d is learnt under %s", l.Lits, l.Level, s.told())
		}
	}
}

// hints holds a chain against a base and the checker's words: the clause follows, and each hint is of use.
func (s *scene) hints(f api.Formula, units []int64, c api.Clause, r arena.Ref) ([]int64, api.Errno) {
	s.t.Helper()
	h, e := s.chain(units, c, r)
	if e != api.OK {
		return h, e
	}
	b, e := base.New(f)
	if e != api.OK {
		s.t.Fatal(e)
	}
	if _, e := b.Add(c, h, true); e != api.OK {
		s.t.Fatalf("%v does not follow by %v under %s of %v: %d", c, h, s.told(), f.Clauses, e)
	}
	return h, api.OK
}

// cuts are clauses that may follow from a conflict, and such as do not: the negations of the trail, in part; what is learnt, less and more.
func cuts(r *rand.Rand, s *scene, l api.Clause) []api.Clause {
	all, decided := api.Clause{}, api.Clause{}
	for _, p := range s.row {
		all = append(all, -p.lit)
		if p.reason == trail.None {
			decided = append(decided, -p.lit)
		}
	}
	some := append(slices.Clone(decided), drawnPart(r, all)...)
	r.Shuffle(len(some), func(i, k int) { some[i], some[k] = some[k], some[i] })
	other := append(slices.Clone(l), lits(drawnLit(r, s.x.Vars()), drawnLit(r, s.x.Vars()))...)
	return []api.Clause{nil, all, decided, some, drawnPart(r, all), drawnPart(r, l), other, append(drawnPart(r, some), drawnPart(r, l)...)}
}

func drawnPart(r *rand.Rand, c api.Clause) api.Clause {
	part := api.Clause{}
	for _, l := range c {
		if r.Intn(4) > 0 {
			part = append(part, l)
		}
	}
	return part
}

func drawnLit(r *rand.Rand, vars int) api.Lit {
	l := api.Lit(1 + r.Intn(vars))
	if r.Intn(2) == 0 {
		return -l
	}
	return l
}

// drawnClause has some literals, seldom two of one variable.
func drawnClause(r *rand.Rand, vars int) api.Clause {
	n := 1 + r.Intn(4)
	if r.Intn(4) > 0 {
		n = 2 + r.Intn(2)
	}
	return drawnOf(r, vars, n)
}

// drawnOf has so many, and seldom more.
func drawnOf(r *rand.Rand, vars, n int) api.Clause {
	c := api.Clause{}
	for _, v := range r.Perm(vars)[:min(n, vars)] {
		l := api.Lit(v + 1)
		if r.Intn(2) == 0 {
			l = -l
		}
		c = append(c, l)
	}
	if r.Intn(12) == 0 {
		c = append(c, c[r.Intn(len(c))], drawnLit(r, vars))
	}
	return c
}

// smallClauses are all clauses of variables up to vars, one literal to all, no two of one variable.
func smallClauses(vars int) []api.Clause {
	all := []api.Clause{nil}
	for v := api.Lit(1); int(v) <= vars; v++ {
		for _, c := range slices.Clone(all) {
			all = append(all, append(slices.Clone(c), -v), append(lits(v), c...))
		}
	}
	return all[1:]
}

// explore goes through all ways of deciding, with propagation between, and looks at each conflict.
func (s *scene) explore(look func(r arena.Ref)) {
	if _, bad := s.propagate(); bad {
		for _, r := range s.conflicts() {
			look(r)
		}
		return
	}
	for v := api.Lit(1); int(v) <= s.x.Vars(); v++ {
		if s.value(v) != 0 {
			continue
		}
		for _, l := range lits(v, -v) {
			s.decide(l)
			s.explore(look)
			s.back(s.levels - 1)
		}
	}
}

// P16.1, P16.3, P16.5: all sets of at most four clauses over three variables, whatever is decided.
func TestAllSmall(t *testing.T) {
	all := smallClauses(3)
	r := rand.New(rand.NewSource(1))
	count, none := 0, 0
	var see func(clauses, more []api.Clause)
	see = func(clauses, more []api.Clause) {
		s := newScene(t, 3, clauses...)
		s.explore(func(at arena.Ref) {
			l, ok := s.follows(at)
			if count++; !ok {
				none++
			}
			for _, c := range cuts(r, s, l.Lits)[:4] {
				s.chain(nil, c, at)
			}
		})
		if len(clauses) == 4 {
			return
		}
		for i, c := range more {
			see(append(slices.Clone(clauses), c), more[:i])
		}
	}
	see(nil, all)
	if count-none < 10000 || none < 1000 {
		t.Errorf("%d conflicts, of %d nothing is learnt", count, none)
	}
}

// move is one by which a right trail grows: a literal that is decided, or assigned by None, or by a clause that is unit.
type move struct {
	lit    api.Lit
	reason int
	decide bool
}

// moves are all there are.
func (s *scene) moves() []move {
	var all []move
	for v := api.Lit(1); int(v) <= s.x.Vars(); v++ {
		if s.value(v) == 0 {
			all = append(all, move{v, trail.None, true}, move{-v, trail.None, true}, move{v, trail.None, false}, move{-v, trail.None, false})
		}
	}
	for _, r := range s.refs {
		if n, l, right := s.state(s.live[r]); !right && n == 1 {
			all = append(all, move{l, int(r), false})
		}
	}
	return all
}

func (s *scene) make(m move) {
	if m.decide {
		s.decide(m.lit)
	} else {
		s.assign(m.lit, m.reason)
	}
}

// P16.1, P16.3, P16.5: all right trails of some clauses, however they came to be; also such as were put too late, or are not closed.
func TestAllTrails(t *testing.T) {
	r := rand.New(rand.NewSource(2))
	found := map[api.Errno]int{}
	for _, clauses := range [][]api.Clause{
		{lits(-1, 2), lits(-2, 3), lits(-1, -2, -3), lits(-3, -1), lits(-3, 4), lits(-4, -1, -2)},
		{lits(-1, -2, 3), lits(-3, 1, 2), lits(-3, -2), lits(-1, 3, 2), lits(-4, 2, -1)},
		{lits(1), lits(-1, 2), lits(-2, -1, 3), lits(-3, -2), lits(-4, -3)},
		{lits(3, 3), lits(-3, -2, -2, 1), lits(-1, -2, -1), lits(2, -1, 4), nil},
	} {
		s := newScene(t, 4, clauses...)
		var grow func()
		grow = func() {
			for _, at := range s.conflicts() {
				_, e := s.learn(at)
				found[e]++
				l, _ := s.follows(at)
				_, units := s.unitsFor()
				for _, c := range cuts(r, s, l.Lits)[:3] {
					s.chain(units, c, at)
				}
			}
			was, levels := slices.Clone(s.row), s.levels
			for _, m := range s.moves() {
				s.make(m)
				grow()
				s.again(was, levels)
			}
		}
		grow()
	}
	if found[api.OK] < 10000 || found[api.ErrState] < 10000 {
		t.Error(found)
	}
}

// again brings the trail to what it was.
func (s *scene) again(was []placed, levels int) {
	if s.levels > levels {
		s.back(levels)
		return
	}
	s.x.Back(0)
	if s.x.Len() > 0 {
		s.x, _ = trail.New(s.x.Vars())
	}
	s.row, s.levels = nil, 0
	for _, p := range was {
		s.make(move{p.lit, p.reason, p.level > s.levels})
	}
}

// P16.1, P16.2, P16.3, P16.5: drawn clauses and right trails.
func TestDrawn(t *testing.T) {
	learnt, chains := map[string]int{}, map[string]int{}
	for seed := range 4000 {
		r := rand.New(rand.NewSource(int64(seed)))
		vars := 3 + r.Intn(14)
		s := newScene(t, vars)
		longer := r.Intn(3)
		for range (1 + longer) * (vars + r.Intn(4*vars)) {
			s.put(drawnOf(r, vars, 1+longer+r.Intn(3))...)
		}
		for len(s.conflicts()) == 0 && len(s.row) < vars {
			drawnMove(r, s)
		}
		for _, at := range append(s.conflicts(), arena.Ref(r.Intn(200))) {
			l, e := s.learn(at)
			learnt[fmt.Sprint(e, " ", min(len(l.Lits), 4))]++
			if e != api.ErrRef && e != api.OK && s.a.ID(at) == 0 {
				t.Fatal(e)
			}
			s.lbd(l.Lits)
			for _, c := range cuts(r, s, l.Lits) {
				f, units := s.unitsFor()
				h, e := s.hints(f, units, c, at)
				chains[fmt.Sprint(e, " ", min(len(h), 4))]++
				drawnWrong(r, units)
				s.chain(units[:r.Intn(len(units)+1)], c, at)
				s.lbd(c)
			}
			if e == api.OK {
				s.follows(at)
			}
		}
	}
	for _, n := range []int{1, 2, 3, 4} {
		if k := fmt.Sprint(api.OK, " ", n); learnt[k] < 100 || chains[k] < 100 {
			t.Errorf("%s: %d, %d", k, learnt[k], chains[k])
		}
	}
	for _, e := range []api.Errno{api.ErrRef, api.ErrState} {
		if k := fmt.Sprint(e, " ", 0); learnt[k] < 100 || chains[k] < 100 {
			t.Errorf("%s: %d, %d", k, learnt[k], chains[k])
		}
	}
	if k := fmt.Sprint(api.ErrReason, " ", 0); chains[k] < 100 {
		t.Errorf("%s: %d", k, chains[k])
	}
}

// drawnWrong makes some ids wrong.
func drawnWrong(r *rand.Rand, units []int64) {
	for i := range units {
		if r.Intn(8) == 0 {
			units[i] = []int64{0, -1, -1 << 62, 1 << 62}[r.Intn(4)]
		}
	}
}

// drawnMove lets the trail grow, mostly by what is unit; seldom it goes back.
func drawnMove(r *rand.Rand, s *scene) {
	all := s.moves()
	m := all[r.Intn(len(all))]
	if last := all[len(all)-1]; last.reason != trail.None && r.Intn(6) > 0 {
		m = last
	}
	if m.reason == trail.None && r.Intn(5) > 0 {
		m.decide = len(s.row) > 0 || r.Intn(2) == 0
	}
	s.make(m)
	if r.Intn(40) == 0 {
		s.back(r.Intn(s.levels + 1))
	}
}

// solving learns of each conflict, over clauses of a base into which all that is learnt comes by its chain, till it is at an end. (It decides by the least variable, and propagates plainly.)
type solving struct {
	*scene
	b     *base.Base
	units []int64
	r     *rand.Rand
}

// settle gives each literal of level 0 its unit, by the chain of its reason.
func (y *solving) settle() {
	y.t.Helper()
	for _, p := range y.row {
		v := plainVar(p.lit)
		if p.level > 0 || y.units[v] > 0 {
			continue
		}
		var h []int64
		reason, _ := cnf.Normal(y.live[arena.Ref(p.reason)])
		for _, l := range reason {
			if l != p.lit {
				h = append(h, y.units[plainVar(l)])
			}
		}
		id, e := y.b.Add(lits(p.lit), append(h, y.ids[arena.Ref(p.reason)]), false)
		if e != api.OK {
			y.t.Fatalf("the unit %d: %d", p.lit, e)
		}
		y.units[v] = id
	}
}

// add puts a clause that the base has taken.
func (y *solving) add(id int64, c api.Clause) arena.Ref {
	y.t.Helper()
	r, e := y.a.Put(id, c, id > 100, 0)
	if e != api.OK {
		y.t.Fatal(e)
	}
	y.refs = append(y.refs, r)
	y.live[r], y.ids[r] = slices.Clone(c), id
	return r
}

// run tells whether there is a model.
func (y *solving) run() bool {
	y.t.Helper()
	for {
		at, bad := y.propagate()
		y.settle()
		if !bad && len(y.row) == y.x.Vars() {
			return true
		}
		if !bad {
			l := drawnLit(y.r, y.x.Vars())
			for ; y.value(l) != 0; l = drawnLit(y.r, y.x.Vars()) {
			}
			y.decide(l)
			continue
		}
		if y.levels == 0 {
			h, e := y.chain(y.units, nil, at)
			if _, f := y.b.Add(nil, h, false); e != api.OK || f != api.OK {
				y.t.Fatalf("the empty clause: %d %d", e, f)
			}
			return false
		}
		y.teach(at)
	}
}

// teach learns of the conflict, goes back, and puts what was learnt.
func (y *solving) teach(at arena.Ref) {
	y.t.Helper()
	l, e := y.learn(at)
	if e != api.OK {
		y.t.Fatalf("nothing is learnt of %v under %s: %d", y.live[at], y.told(), e)
	}
	y.asserts(l)
	h, e := y.chain(y.units, l.Lits, at)
	id, f := y.b.Add(l.Lits, h, true)
	if e != api.OK || f != api.OK {
		y.t.Fatalf("%v under %s: %d %d", l.Lits, y.told(), e, f)
	}
	y.back(l.Level)
	r := y.add(id, l.Lits)
	if n, first, right := y.state(l.Lits); right || n != 1 || first != l.Lits[0] {
		y.t.Fatalf("%v is not unit under %s", l.Lits, y.told())
	}
	y.assign(l.Lits[0], int(r))
}

// P16.5: whole searches: all that is learnt follows by its chain, and at the end the answer is right.
func TestSearches(t *testing.T) {
	found := map[bool]int{}
	for seed := range 700 {
		r := rand.New(rand.NewSource(int64(seed)))
		f := api.Formula{Vars: 4 + r.Intn(9)}
		for range f.Vars * (30 + r.Intn(30)) / 10 {
			c := drawnClause(r, f.Vars)
			if r.Intn(5) > 0 || len(c) > 1 {
				f.Clauses = append(f.Clauses, c)
			}
		}
		b, _ := base.New(f)
		y := &solving{newScene(t, f.Vars), b, make([]int64, f.Vars+1), r}
		for i, c := range f.Clauses {
			if _, both := cnf.Normal(c); !both {
				y.add(int64(i+1), c)
			}
		}
		sat := y.run()
		found[sat]++
		if _, want, e := truth.Find(f); want != sat || e != api.OK {
			t.Fatalf("%v: %v, want %v, %d", f, sat, want, e)
		}
	}
	if found[true] < 50 || found[false] < 50 {
		t.Error(found)
	}
}

// P16.5: what is learnt is true in every model of the clauses.
func TestLearntFollows(t *testing.T) {
	for seed := range 300 {
		r := rand.New(rand.NewSource(int64(seed)))
		vars := 3 + r.Intn(6)
		s := newScene(t, vars)
		for range 3 * vars {
			s.put(drawnClause(r, vars)...)
		}
		for len(s.conflicts()) == 0 && len(s.row) < vars {
			drawnMove(r, s)
		}
		f, _ := s.unitsFor()
		for _, at := range s.conflicts() {
			l, e := s.learn(at)
			if e != api.OK {
				continue
			}
			if follows, e := truth.Implies(f, l.Lits); !follows || e != api.OK {
				t.Fatalf("%v does not follow from %v: %d", l.Lits, f.Clauses, e)
			}
		}
	}
}

// The same arena and trail have the same answers, over and over.
func TestSameTwice(t *testing.T) {
	run := func() string {
		r := rand.New(rand.NewSource(9))
		s := newScene(t, 14)
		for range 50 {
			s.put(drawnClause(r, 14)...)
		}
		out := ""
		for range 60 {
			for len(s.conflicts()) == 0 && len(s.row) < 14 {
				drawnMove(r, s)
			}
			for _, at := range s.conflicts() {
				l, e := Learn(s.a, s.x, at)
				h, f := Chain(s.a, s.x, nil, l.Lits, at)
				out += fmt.Sprintln(l, e, h, f)
			}
			s.back(r.Intn(s.levels + 1))
			if len(s.conflicts()) > 0 {
				s.again(nil, 0)
			}
		}
		return out
	}
	if a, b := run(), run(); a != b || len(a) < 100 {
		t.Errorf("%s is not %s", a, b)
	}
}

// Nothing is promised of arenas and trails that are not right; but every call ends, and none panics, and beside an error there is nothing.
func TestNotRight(t *testing.T) {
	for seed := range 3000 {
		r := rand.New(rand.NewSource(int64(seed)))
		vars := 1 + r.Intn(9)
		a, x := arena.New(1000), mustTrail(t, vars)
		for range 1 + r.Intn(20) {
			c := drawnClause(r, vars+r.Intn(3))
			if r.Intn(10) == 0 {
				c = append(c, []api.Lit{leastLit, greatestLit, -greatestLit}[r.Intn(3)])
			}
			a.Put(int64(1+r.Intn(9)), c, false, 0)
		}
		refs := a.Refs()
		for range 3 * vars {
			drawnNotRight(r, a, x, refs)
		}
		for range 3 {
			a.Kill(refs[r.Intn(len(refs))])
		}
		negations := api.Clause{}
		for _, l := range x.Lits() {
			negations = append(negations, -l)
		}
		last, _ := a.Put(99, negations, false, 0)
		for _, at := range append(refs, last, arena.Ref(r.Intn(100)-5)) {
			seeNotRight(t, r, a, x, at)
		}
	}
}

// drawnNotRight puts a literal on the trail by something that is mostly no reason.
func drawnNotRight(r *rand.Rand, a *arena.Arena, x *trail.Trail, refs []arena.Ref) {
	l := drawnLit(r, x.Vars())
	at := refs[r.Intn(len(refs))]
	switch r.Intn(8) {
	case 0, 1:
		x.Decide(l)
	case 2:
		x.Assign(l, []int{trail.None, 1, 50, 1 << 30, 1 << 32, 1<<63 - 1}[r.Intn(6)])
	case 3, 4:
		x.Assign(l, int(at))
	default:
		if m := a.Lit(at, r.Intn(4)); m != 0 {
			x.Assign(m, int(at))
		}
	}
}

func seeNotRight(t *testing.T, r *rand.Rand, a *arena.Arena, x *trail.Trail, at arena.Ref) {
	t.Helper()
	l, e := Learn(a, x, at)
	if e != api.OK && !zero(l) {
		t.Fatalf("Learn: %v beside %d", l, e)
	}
	units := []int64{5, 6, 7, int64(r.Intn(3)), 8}
	for _, c := range []api.Clause{nil, l.Lits, x.Lits(), drawnClause(r, 9), a.Lits(at)} {
		LBD(x, c)
		if h, e := Chain(a, x, units, c, at); e != api.OK && len(h) > 0 {
			t.Fatalf("Chain: %v beside %d", h, e)
		}
	}
}

// Reasons that go round: each of two literals has the other's clause, of a trail that is not right.
func TestRound(t *testing.T) {
	a, x := arena.New(1000), mustTrail(t, 4)
	r, _ := a.Put(1, lits(-2, 1), false, 0)
	q, _ := a.Put(2, lits(-1, 2), false, 0)
	own, _ := a.Put(3, lits(-3, 3, -3, -4), false, 0)
	bad, _ := a.Put(4, lits(-3, -2, -1), false, 0)
	x.Decide(4)
	x.Assign(1, int(r))
	x.Assign(2, int(q))
	x.Assign(3, int(own))
	for range 3 {
		Learn(a, x, bad)
		Chain(a, x, nil, lits(-4), bad)
		Chain(a, x, nil, nil, bad)
	}
}

// Whatever clauses there are, and however a right trail came to be, what is found is right.
func FuzzAnalyze(f *testing.F) {
	f.Add(uint8(7), []byte{1, 255, 2, 0, 255, 3, 0, 254, 253, 4, 0, 252, 251, 6, 0, 252, 250, 7, 0, 250, 249, 0, 0, 9, 0, 0, 0, 0, 0})
	f.Add(uint8(3), []byte{255, 2, 0, 254, 3, 0, 253, 255, 0, 0, 1, 0, 1, 2, 3, 4})
	f.Fuzz(func(t *testing.T, vars uint8, bytes []byte) {
		s := newScene(t, 1+int(vars)%12)
		next := func() int {
			if len(bytes) == 0 {
				return 0
			}
			b := bytes[0]
			bytes = bytes[1:]
			return int(int8(b))
		}
		for len(s.refs) < 40 && len(bytes) > 0 {
			c := api.Clause{}
			for l := next(); l != 0 && len(c) < 9; l = next() {
				c = append(c, api.Lit(l%(s.x.Vars()+1)))
			}
			if len(c) == 0 {
				break
			}
			s.put(slices.DeleteFunc(c, func(l api.Lit) bool { return l == 0 })...)
		}
		for len(s.row) < s.x.Vars() && len(s.conflicts()) == 0 {
			all := s.moves()
			s.make(all[(next()+128)%len(all)])
		}
		r := rand.New(rand.NewSource(int64(next())))
		for _, at := range s.conflicts() {
			l, _ := s.learn(at)
			s.follows(at, cuts(r, s, l.Lits)...)
		}
	})
}
