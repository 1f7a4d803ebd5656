package truth

import (
	"math"
	"math/rand"
	"slices"
	"testing"

	"threshing/api"
)

const (
	leastLit    = math.MinInt32
	greatestLit = math.MaxInt32
)

// formula is short for a formula by hand.
func formula(vars int, cs ...api.Clause) api.Formula { return api.Formula{Vars: vars, Clauses: cs} }

// allModels tells the rows of n values in the chapter's order, by other means than numbers: each of one variable less, first with false behind it, then with true.
func allModels(n int) []api.Model {
	all := []api.Model{{}}
	for range n {
		var next []api.Model
		for _, value := range []bool{false, true} {
			for _, m := range all {
				next = append(next, append(slices.Clone(m), value))
			}
		}
		all = next
	}
	return all
}

func clauseTrue(c api.Clause, m api.Model) bool {
	for _, l := range c {
		if l > 0 && m[l-1] || l < 0 && !m[-l-1] {
			return true
		}
	}
	return false
}

// plainModels is the definition: which of these models make all of these clauses true.
func plainModels(cs []api.Clause, of []api.Model) []api.Model {
	var good []api.Model
	for _, m := range of {
		if !slices.ContainsFunc(cs, func(c api.Clause) bool { return !clauseTrue(c, m) }) {
			good = append(good, m)
		}
	}
	return good
}

func plainImplies(good []api.Model, c api.Clause) bool {
	return !slices.ContainsFunc(good, func(m api.Model) bool { return !clauseTrue(c, m) })
}

func sameModels(a, b []api.Model) bool {
	return slices.EqualFunc(a, b, func(x, y api.Model) bool { return slices.Equal(x, y) })
}

// subsetClauses tells each set of these literals as a clause.
func subsetClauses(lits ...api.Lit) []api.Clause {
	all := []api.Clause{nil}
	for _, l := range lits {
		for _, c := range all {
			all = append(all, append(slices.Clone(c), l))
		}
	}
	return all
}

// formulasUpTo tells every row of at most n of these clauses.
func formulasUpTo(n int, of []api.Clause) [][]api.Clause {
	all := [][]api.Clause{nil}
	last := all
	for range n {
		var next [][]api.Clause
		for _, cs := range last {
			for _, c := range of {
				next = append(next, append(slices.Clone(cs), c))
			}
		}
		all = append(all, next...)
		last = next
	}
	return all
}

// drawnClauses tells clauses of up to width literals, doubled and opposite ones among them.
func drawnClauses(r *rand.Rand, vars, n, width int) []api.Clause {
	cs := make([]api.Clause, n)
	for i := range cs {
		cs[i] = make(api.Clause, 1+r.Intn(width))
		for j := range cs[i] {
			cs[i][j] = api.Lit(1 + r.Intn(vars))
			if r.Intn(2) == 0 {
				cs[i][j] = -cs[i][j]
			}
		}
	}
	return cs
}

// checkFind holds Find and Count against the models that a formula is known to have.
func checkFind(t *testing.T, f api.Formula, good []api.Model) {
	t.Helper()
	var first api.Model
	if len(good) > 0 {
		first = good[0]
	}
	m, ok, e := Find(f)
	if !slices.Equal(m, first) || ok != (len(good) > 0) || e != api.OK {
		t.Fatalf("Find(%v): %v, %t, %d, want %v", f, m, ok, e, first)
	}
	if n, e := Count(f); n != len(good) || e != api.OK {
		t.Fatalf("Count(%v): %d, %d, want %d", f, n, e, len(good))
	}
}

func checkImplies(t *testing.T, f api.Formula, c api.Clause, want bool) {
	t.Helper()
	if ok, e := Implies(f, c); ok != want || e != api.OK {
		t.Fatalf("Implies(%v, %v): %t, %d, want %t", f, c, ok, e, want)
	}
}

func checkAlike(t *testing.T, f, g api.Formula, want bool) {
	t.Helper()
	if ok, e := Alike(f, g); ok != want || e != api.OK {
		t.Fatalf("Alike(%v, %v): %t, %d, want %t", f, g, ok, e, want)
	}
}

// The chapter's examples.
func TestExamples(t *testing.T) {
	checkFind(t, formula(2, api.Clause{1, 2}, api.Clause{-1}), []api.Model{{false, true}})
	if n, e := Count(formula(3)); n != 8 || e != api.OK {
		t.Errorf("no clauses: %d, %d", n, e)
	}
	if n, e := Count(formula(3, api.Clause{})); n != 0 || e != api.OK {
		t.Errorf("an empty clause: %d, %d", n, e)
	}
	f := formula(3, api.Clause{-1, 2}, api.Clause{-2, 3})
	checkImplies(t, f, api.Clause{-1, 3}, true)
	checkImplies(t, f, api.Clause{3}, false)
	if m, ok, e := Find(formula(17)); len(m) != 0 || ok || e != api.ErrLimit {
		t.Errorf("17 variables: %v, %t, %d", m, ok, e)
	}
}

// P3.1: the first model is the one whose number is least, and variable 1 is its lowest bit.
func TestFindFirst(t *testing.T) {
	for _, x := range []struct {
		f    api.Formula
		want api.Model
	}{
		{formula(1), api.Model{false}},
		{formula(3), api.Model{false, false, false}},
		{formula(2, api.Clause{1, 2}), api.Model{true, false}},
		{formula(3, api.Clause{3, 2, 1}), api.Model{true, false, false}},
		{formula(3, api.Clause{3, 2}), api.Model{false, true, false}},
		{formula(3, api.Clause{3}), api.Model{false, false, true}},
		{formula(3, api.Clause{3, 1}, api.Clause{-1}), api.Model{false, false, true}},
		{formula(3, api.Clause{3, 1}, api.Clause{-1, 2}), api.Model{true, true, false}},
	} {
		m, ok, e := Find(x.f)
		if !slices.Equal(m, x.want) || !ok || e != api.OK {
			t.Errorf("Find(%v): %v, %t, %d, want %v", x.f, m, ok, e, x.want)
		}
	}
	// Each model of as many variables as there may be is found, if it is the only one.
	for _, k := range []int{0, 1, 127, 128, 255, 256, 257, 511, 512, 32767, 32768, 65280, 65534, 65535} {
		only, want := make([]api.Clause, api.MaxTruth), make(api.Model, api.MaxTruth)
		for i := range only {
			want[i] = k/(1<<i)%2 == 1
			only[i] = api.Clause{api.Lit(i + 1)}
			if !want[i] {
				only[i][0] = -only[i][0]
			}
		}
		checkFind(t, formula(api.MaxTruth, only...), []api.Model{want})
	}
}

// Nil and empty mean the same; without variables there is one model, which has no values.
func TestNone(t *testing.T) {
	for _, f := range []api.Formula{{}, {Clauses: []api.Clause{}}} {
		checkFind(t, f, []api.Model{{}})
		checkImplies(t, f, nil, false)
		checkImplies(t, f, api.Clause{}, false)
		checkAlike(t, f, api.Formula{}, true)
		checkAlike(t, f, formula(0, nil), false)
	}
	for _, f := range []api.Formula{formula(0, nil), formula(0, api.Clause{}), formula(0, nil, nil)} {
		checkFind(t, f, nil)
		checkImplies(t, f, nil, true)
		checkImplies(t, f, api.Clause{}, true)
		checkAlike(t, f, formula(0, api.Clause{}), true)
		checkAlike(t, formula(0), f, false)
	}
}

// Doubled literals say nothing more, opposite ones make a clause true, a clause twice is one.
func TestDoubledAndOpposite(t *testing.T) {
	for _, x := range []struct {
		f api.Formula
		n int
	}{
		{formula(2, api.Clause{1, 1, 1}), 2},
		{formula(2, api.Clause{-2, -2}), 2},
		{formula(2, api.Clause{1, -1}), 4},
		{formula(2, api.Clause{-2, 1, 2}), 4},
		{formula(2, api.Clause{1, -1}, api.Clause{2}), 2},
		{formula(2, api.Clause{1}, api.Clause{1}, api.Clause{1, 1}), 2},
		{formula(2, api.Clause{1}, api.Clause{-1}), 0},
		{formula(2, api.Clause{1, 2}, api.Clause{2, 1}), 3},
		{formula(2, api.Clause{1, -1}, nil), 0},
		{formula(16, api.Clause{16, -16, 1}, api.Clause{9, -9}, api.Clause{8, -8}), 65536},
	} {
		if n, e := Count(x.f); n != x.n || e != api.OK {
			t.Errorf("Count(%v): %d, %d, want %d", x.f, n, e, x.n)
		}
	}
	f := formula(2, api.Clause{1})
	checkImplies(t, f, api.Clause{1, 1}, true)
	checkImplies(t, f, api.Clause{-1, -1}, false)
	checkImplies(t, f, api.Clause{2, -2}, true)
	checkAlike(t, f, formula(2, api.Clause{1, 1}, api.Clause{1}, api.Clause{2, -2}), true)
}

// P3.1, P3.2, P3.3 of all small formulas.
func TestAllSmall(t *testing.T) {
	clauses := subsetClauses(-2, -1, 1, 2)
	of := allModels(2)
	for _, cs := range formulasUpTo(3, clauses) {
		f, good := formula(2, cs...), plainModels(cs, of)
		checkFind(t, f, good)
		for _, c := range clauses {
			checkImplies(t, f, c, plainImplies(good, c))
		}
	}
	all := formulasUpTo(2, clauses)
	for _, a := range all {
		for _, b := range all {
			checkAlike(t, formula(2, a...), formula(2, b...), sameModels(plainModels(a, of), plainModels(b, of)))
		}
	}
}

// P3.1, P3.2, P3.3 of drawn formulas of up to as many variables as there may be.
func TestDrawn(t *testing.T) {
	r := rand.New(rand.NewSource(3))
	for vars := 1; vars <= api.MaxTruth; vars++ {
		of := allModels(vars)
		for _, n := range []int{1, vars, 3 * vars, 6 * vars} {
			cs := drawnClauses(r, vars, n, 4)
			f, good := formula(vars, cs...), plainModels(cs, of)
			checkFind(t, f, good)
			for _, c := range drawnClauses(r, vars, 10, 3) {
				checkImplies(t, f, c, plainImplies(good, c))
			}
			more := append(slices.Clone(cs), drawnClauses(r, vars, 1, vars)...)
			want := sameModels(good, plainModels(more, of))
			checkAlike(t, f, formula(vars, more...), want)
			checkAlike(t, formula(vars, more...), f, want)
		}
	}
}

// P3.3: two formulas are not alike if one model alone is between them, wherever it stands, nor if they have as many.
func TestAlikeByOne(t *testing.T) {
	for _, vars := range []int{1, 2, 8, 9, 16} {
		for _, l := range []api.Lit{1, -1} {
			not := make(api.Clause, vars)
			for i := range not {
				not[i] = l * api.Lit(i+1)
			}
			checkAlike(t, formula(vars), formula(vars, not), false)
			checkAlike(t, formula(vars, not), formula(vars), false)
			checkAlike(t, formula(vars, not), formula(vars, not, not), true)
		}
	}
	checkAlike(t, formula(2, api.Clause{1}), formula(2, api.Clause{2}), false)
	checkAlike(t, formula(2, api.Clause{1}, api.Clause{-1, 2}), formula(2, api.Clause{2}, api.Clause{1, -2}), true)
	checkAlike(t, formula(2, api.Clause{1}, api.Clause{-1}), formula(2, nil), true)
}

// wrong tells formulas that are not taken, each with why.
func wrong() []struct {
	name string
	f    api.Formula
	want api.Errno
} {
	many := make([]api.Clause, api.MaxClauses+1)
	half := make(api.Clause, api.MaxLits/2)
	for i := range half {
		half[i] = 1
	}
	zero := []api.Clause{{0}}
	return []struct {
		name string
		f    api.Formula
		want api.Errno
	}{
		{"Vars below 0", formula(-1), api.ErrArg},
		{"Vars far below 0", formula(math.MinInt), api.ErrArg},
		{"Vars past MaxVar", formula(api.MaxVar + 1), api.ErrArg},
		{"Vars far past MaxVar", formula(math.MaxInt), api.ErrArg},
		{"Vars below 0, and a literal 0", formula(-1, zero...), api.ErrArg},
		{"Vars past MaxVar, and too many clauses", formula(api.MaxVar+1, many...), api.ErrArg},
		{"one variable too many", formula(api.MaxTruth + 1), api.ErrLimit},
		{"one variable too many, and an empty clause", formula(api.MaxTruth+1, nil), api.ErrLimit},
		{"MaxVar", formula(api.MaxVar, api.Clause{1}), api.ErrLimit},
		{"one variable too many, and a literal 0", formula(api.MaxTruth+1, zero...), api.ErrLit},
		{"one variable too many, and a literal above", formula(api.MaxTruth+1, api.Clause{-18}), api.ErrLit},
		{"too many clauses", formula(1, many...), api.ErrLimit},
		{"too many clauses, and a literal 0", formula(1, append(slices.Clone(many), zero...)...), api.ErrLimit},
		{"too many literals", formula(1, half, half, api.Clause{1}), api.ErrLimit},
		{"a literal 0", formula(1, zero...), api.ErrLit},
		{"a literal 0 behind an empty clause", formula(1, nil, api.Clause{1, 0}), api.ErrLit},
		{"a literal of no variable", formula(0, api.Clause{1}), api.ErrLit},
		{"a literal above", formula(16, api.Clause{17}), api.ErrLit},
		{"a negated literal above", formula(2, api.Clause{1, -1, -3}), api.ErrLit},
		{"the greatest literal", formula(16, api.Clause{greatestLit}), api.ErrLit},
		{"the least literal", formula(16, api.Clause{leastLit}), api.ErrLit},
	}
}

// P3.1 to P3.3: what is not taken, and nothing beside the error; f's error comes ahead of c's and of g's, and g's ahead of Vars that are not as many.
func TestWrong(t *testing.T) {
	for _, x := range wrong() {
		if m, ok, e := Find(x.f); len(m) != 0 || ok || e != x.want {
			t.Errorf("Find, %s: %v, %t, %d, want %d", x.name, m, ok, e, x.want)
		}
		if n, e := Count(x.f); n != 0 || e != x.want {
			t.Errorf("Count, %s: %d, %d, want %d", x.name, n, e, x.want)
		}
		for _, c := range []api.Clause{nil, {1}, {0}, {leastLit}} {
			if ok, e := Implies(x.f, c); ok || e != x.want {
				t.Errorf("Implies of %v, %s: %t, %d, want %d", c, x.name, ok, e, x.want)
			}
		}
		for _, vars := range []int{1, 2, 16} {
			if ok, e := Alike(x.f, formula(vars)); ok || e != x.want {
				t.Errorf("Alike, %s: %t, %d, want %d", x.name, ok, e, x.want)
			}
			if ok, e := Alike(formula(vars), x.f); ok || e != x.want {
				t.Errorf("Alike behind, %s: %t, %d, want %d", x.name, ok, e, x.want)
			}
		}
	}
}

// P3.3: of two formulas that are not taken, the first one's error.
func TestAlikeBothWrong(t *testing.T) {
	all := []struct {
		f    api.Formula
		want api.Errno
	}{{formula(-1), api.ErrArg}, {formula(17), api.ErrLimit}, {formula(1, api.Clause{2}), api.ErrLit}}
	for _, a := range all {
		for _, b := range all {
			if ok, e := Alike(a.f, b.f); ok || e != a.want {
				t.Errorf("Alike(%v, %v): %t, %d, want %d", a.f, b.f, ok, e, a.want)
			}
		}
	}
}

// P3.3: not as many Vars.
func TestAlikeVars(t *testing.T) {
	for a := range api.MaxTruth + 1 {
		for b := range api.MaxTruth + 1 {
			want := api.OK
			if a != b {
				want = api.ErrArg
			}
			if ok, e := Alike(formula(a, nil), formula(b, nil)); ok != (a == b) || e != want {
				t.Errorf("Alike of %d and %d variables: %t, %d", a, b, ok, e)
			}
		}
	}
}

// P3.3: a clause with a wrong literal is refused, whatever stands ahead of it and whatever f is.
func TestImpliesWrong(t *testing.T) {
	for _, x := range []struct {
		vars int
		c    api.Clause
	}{
		{0, api.Clause{0}},
		{0, api.Clause{1}},
		{0, api.Clause{-1}},
		{2, api.Clause{0}},
		{2, api.Clause{1, 0}},
		{2, api.Clause{1, -1, 0}},
		{2, api.Clause{3}},
		{2, api.Clause{-3, 1}},
		{2, api.Clause{1, -1, 2, -3}},
		{16, api.Clause{17}},
		{16, api.Clause{-17}},
		{16, api.Clause{33}},
		{16, api.Clause{greatestLit}},
		{16, api.Clause{-greatestLit}},
		{16, api.Clause{leastLit}},
	} {
		for _, f := range []api.Formula{formula(x.vars), formula(x.vars, nil)} {
			if ok, e := Implies(f, x.c); ok || e != api.ErrLit {
				t.Errorf("Implies(%v, %v): %t, %d", f, x.c, ok, e)
			}
		}
	}
}

// guarded is a formula and a clause with more behind each of their lengths, and a look at whether any of it was changed.
func guarded(f api.Formula, c api.Clause) (api.Formula, api.Clause, func() bool) {
	var rows, were []api.Clause
	for _, x := range append(slices.Clone(f.Clauses), c, api.Clause{5}) {
		rows = append(rows, append(slices.Clone(x), 77, -76, 0)[:len(x)])
		were = append(were, append(slices.Clone(x), 77, -76, 0))
	}
	heads := slices.Clone(rows)
	n := len(f.Clauses)
	kept := func() bool {
		for i, x := range rows {
			if len(heads[i]) != len(x) || &heads[i][:1][0] != &x[:1][0] || !slices.Equal(x[:len(were[i])], were[i]) {
				return false
			}
		}
		return true
	}
	return formula(f.Vars, rows[:n]...), rows[n], kept
}

// What is handed in is only read, what lies behind its length too.
func TestOnlyRead(t *testing.T) {
	for _, f := range []api.Formula{
		{},
		formula(3, api.Clause{3, 1, -2}, api.Clause{2, 1, 2}, nil, api.Clause{1, -1}),
		formula(3, api.Clause{3}, api.Clause{2}, api.Clause{3}, api.Clause{-1, -2}),
		formula(16, api.Clause{16, 9}, api.Clause{8}, api.Clause{-1, 16}, api.Clause{8}),
		formula(17, api.Clause{3, 1}, api.Clause{2}),
		formula(2, api.Clause{2}, api.Clause{1, 0}),
	} {
		f, c, kept := guarded(f, api.Clause{2, 1, 2, -2})
		g, d, alsoKept := guarded(f, nil)
		Find(f)
		Count(f)
		Implies(f, c)
		Implies(g, d)
		Alike(f, g)
		Alike(g, f)
		if !kept() || !alsoKept() {
			t.Errorf("%v: changed", f)
		}
	}
}

// A model that is answered is new memory, and nothing of it is kept.
func TestNewMemory(t *testing.T) {
	f := formula(3, api.Clause{1, 2}, api.Clause{-1, 3})
	first, _, _ := Find(f)
	second, _, _ := Find(f)
	want := api.Model{false, true, false}
	if !slices.Equal(first, want) || !slices.Equal(second, want) {
		t.Fatalf("%v, then %v", first, second)
	}
	for i := range first[:cap(first)] {
		first[:cap(first)][i] = i%2 == 0
	}
	third, _, _ := Find(f)
	if !slices.Equal(second, want) || !slices.Equal(third, want) {
		t.Errorf("%v, then %v", second, third)
	}
}

// Nothing is kept of a formula: changed by its owner it is another one.
func TestNothingKept(t *testing.T) {
	f := formula(2, api.Clause{1}, api.Clause{2})
	checkFind(t, f, []api.Model{{true, true}})
	f.Clauses[0][0] = -1
	checkFind(t, f, []api.Model{{false, true}})
	f.Clauses[1] = nil
	checkFind(t, f, nil)
}

// P3.4: a formula without clauses has 2^n models, one with an empty clause none.
func TestPowers(t *testing.T) {
	want := 1
	for vars := range api.MaxTruth + 1 {
		if n, e := Count(formula(vars)); n != want || e != api.OK {
			t.Errorf("%d variables: %d, %d, want %d", vars, n, e, want)
		}
		if m, ok, e := Find(formula(vars)); len(m) != vars || slices.Contains(m, true) || !ok || e != api.OK {
			t.Errorf("%d variables: %v, %t, %d", vars, m, ok, e)
		}
		some := make([]api.Clause, vars)
		for i := range some {
			some[i] = api.Clause{api.Lit(i + 1)}
		}
		for at := range vars + 1 {
			f := formula(vars, slices.Insert(slices.Clone(some), at, api.Clause{})...)
			if n, e := Count(f); n != 0 || e != api.OK {
				t.Errorf("%d variables, an empty clause at %d: %d, %d", vars, at, n, e)
			}
			if m, ok, e := Find(f); len(m) != 0 || ok || e != api.OK {
				t.Errorf("%d variables, an empty clause at %d: %v, %t, %d", vars, at, m, ok, e)
			}
		}
		want *= 2
	}
}

// P3.4: a clause more leaves no more models, and as many just if it was implied; a formula implies each of its clauses.
func TestMoreClauses(t *testing.T) {
	r := rand.New(rand.NewSource(4))
	for _, vars := range []int{1, 3, 7, 8, 9, 12, 16} {
		cs := drawnClauses(r, vars, 3*vars, 5)
		before, _ := Count(formula(vars))
		for i, c := range cs {
			less, more := formula(vars, cs[:i]...), formula(vars, cs[:i+1]...)
			n, e := Count(more)
			if n > before || e != api.OK {
				t.Fatalf("%v: %d models, and %d before its last clause", more, n, before)
			}
			checkImplies(t, less, c, n == before)
			checkImplies(t, more, cs[r.Intn(i+1)], true)
			checkImplies(t, more, c, true)
			before = n
		}
	}
}

// longClauses tells all clauses of 13 of the first 15 variables, each with both signs, and 16: no two are the same, none is within another, and together they are 16.
func longClauses() []api.Clause {
	var cs []api.Clause
	for a := range 15 {
		for b := range a {
			for signs := range 1 << 13 {
				c := api.Clause{16}
				for v := range 15 {
					if v == a || v == b {
						continue
					}
					l := api.Lit(v + 1)
					if signs>>(len(c)-1)&1 == 1 {
						l = -l
					}
					c = append(c, l)
				}
				cs = append(cs, c)
			}
		}
	}
	return cs
}

// As many clauses as there may be end too: the same one, all opposite, and 860160 of which each must be looked at.
func TestMany(t *testing.T) {
	same, opposite := make([]api.Clause, api.MaxClauses), make([]api.Clause, api.MaxClauses)
	for i := range same {
		same[i] = api.Clause{16, -1}
		opposite[i] = api.Clause{1, -1}
	}
	for _, x := range []struct {
		name string
		cs   []api.Clause
		n    int
	}{{"same", same, 49152}, {"opposite", opposite, 65536}} {
		if n, e := Count(formula(16, x.cs...)); n != x.n || e != api.OK {
			t.Errorf("%s: %d, %d, want %d", x.name, n, e, x.n)
		}
	}
	f, g := formula(16, longClauses()...), formula(16, api.Clause{16})
	if n, e := Count(f); n != 32768 || e != api.OK {
		t.Errorf("long: %d, %d", n, e)
	}
	if ok, e := Alike(f, g); !ok || e != api.OK {
		t.Errorf("long, and 16 alone: %t, %d", ok, e)
	}
	// Without those that have no negated literal, the model in which all is false is one too.
	h := formula(16, slices.DeleteFunc(f.Clauses, func(c api.Clause) bool { return slices.Min(c) > 0 })...)
	if ok, e := Alike(h, g); ok || e != api.OK {
		t.Errorf("long but some, and 16 alone: %t, %d", ok, e)
	}
	if n, e := Count(h); n != 32769 || e != api.OK {
		t.Errorf("long but some: %d, %d", n, e)
	}
}

// P3.3: a clause is held against Vars alone, however long it is.
func TestImpliesLong(t *testing.T) {
	long := make(api.Clause, api.MaxLits+1)
	for i := range long {
		long[i] = 1
	}
	for _, x := range []struct {
		f    api.Formula
		last api.Lit
		want bool
		e    api.Errno
	}{
		{formula(1), 1, false, api.OK},
		{formula(1), -1, true, api.OK},
		{formula(1, api.Clause{1}), 1, true, api.OK},
		{formula(1), 0, false, api.ErrLit},
		{formula(1), 2, false, api.ErrLit},
	} {
		long[len(long)-1] = x.last
		if ok, e := Implies(x.f, long); ok != x.want || e != x.e {
			t.Errorf("Implies of a long clause with %d: %t, %d", x.last, ok, e)
		}
	}
}
