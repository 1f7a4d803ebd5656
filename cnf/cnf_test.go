package cnf

import (
	"math"
	"math/rand"
	"slices"
	"testing"

	"threshing/api"
)

const (
	leastLit    = math.MinInt32
	greatestLit = math.MaxInt32
)

// clausesUpTo tells every row of at most n of these literals.
func clausesUpTo(n int, lits ...api.Lit) []api.Clause {
	all := []api.Clause{nil}
	last := all
	for range n {
		var next []api.Clause
		for _, c := range last {
			for _, l := range lits {
				next = append(next, append(slices.Clone(c), l))
			}
		}
		all = append(all, next...)
		last = next
	}
	return all
}

// modelsUpTo tells every model of at most n variables.
func modelsUpTo(n int) []api.Model {
	var all []api.Model
	for vars := range n + 1 {
		for k := range 1 << vars {
			m := make(api.Model, vars)
			for v := range vars {
				m[v] = k>>v&1 == 1
			}
			all = append(all, m)
		}
	}
	return all
}

func setOf(c api.Clause) map[api.Lit]bool {
	s := map[api.Lit]bool{}
	for _, l := range c {
		s[l] = true
	}
	return s
}

func within(a, b api.Clause) bool {
	s := setOf(b)
	for _, l := range a {
		if !s[l] {
			return false
		}
	}
	return true
}

// hasBoth asks in 64 bits, in which every literal has a negation.
func hasBoth(c api.Clause) bool {
	for _, l := range c {
		for _, k := range c {
			if l != 0 && int64(l) == -int64(k) {
				return true
			}
		}
	}
	return false
}

// litTrue is the chapter's definition, word by word.
func litTrue(l api.Lit, m api.Model) bool {
	v := int64(l)
	if v > 0 {
		return v <= int64(len(m)) && m[v-1]
	}
	return v < 0 && -v <= int64(len(m)) && !m[-v-1]
}

func clauseTrue(c api.Clause, m api.Model) bool {
	for _, l := range c {
		if litTrue(l, m) {
			return true
		}
	}
	return false
}

// less is the order of literals as the chapter tells it.
func less(a, b api.Lit) bool {
	va, vb := int64(a), int64(b)
	va, vb = max(va, -va), max(vb, -vb)
	return va < vb || va == vb && a < 0 && b > 0
}

// checkNormal holds an answer of Normal against the clause that it should be of.
func checkNormal(t *testing.T, of, got api.Clause, both bool) {
	t.Helper()
	for i := 1; i < len(got); i++ {
		if !less(got[i-1], got[i]) {
			t.Fatalf("of %v: %v is not in order, or has one twice", of, got)
		}
	}
	if !within(of, got) || !within(got, of) {
		t.Fatalf("of %v: %v is another set", of, got)
	}
	if both != hasBoth(of) {
		t.Fatalf("of %v: both %t", of, both)
	}
}

// P1.1: Vars comes ahead of all else.
func TestRightVars(t *testing.T) {
	tooMany := make([]api.Clause, api.MaxClauses+1)
	for _, x := range []struct {
		vars int
		want api.Errno
	}{{0, api.OK}, {1, api.OK}, {api.MaxVar, api.OK}, {-1, api.ErrArg}, {api.MaxVar + 1, api.ErrArg}, {math.MinInt, api.ErrArg}, {math.MaxInt, api.ErrArg}} {
		for _, none := range [][]api.Clause{nil, {}, {nil}, {{}, nil}} {
			if e := Right(api.Formula{Vars: x.vars, Clauses: none}); e != x.want {
				t.Errorf("Vars %d: %d, want %d", x.vars, e, x.want)
			}
		}
		if x.want == api.ErrArg {
			for _, cs := range [][]api.Clause{tooMany, {{0}}} {
				if e := Right(api.Formula{Vars: x.vars, Clauses: cs}); e != api.ErrArg {
					t.Errorf("Vars %d and another fault: %d", x.vars, e)
				}
			}
		}
	}
}

// P1.1: the number of clauses comes ahead of their literals.
func TestRightClauses(t *testing.T) {
	most := make([]api.Clause, api.MaxClauses)
	if e := Right(api.Formula{Clauses: most}); e != api.OK {
		t.Errorf("MaxClauses: %d", e)
	}
	more := append(most, nil)
	if e := Right(api.Formula{Clauses: more}); e != api.ErrLimit {
		t.Errorf("one more: %d", e)
	}
	more[0] = api.Clause{0}
	if e := Right(api.Formula{Clauses: more}); e != api.ErrLimit {
		t.Errorf("one more, and a literal 0: %d", e)
	}
	if e := Right(api.Formula{Clauses: more[:api.MaxClauses]}); e != api.ErrLit {
		t.Errorf("MaxClauses, and a literal 0: %d", e)
	}
}

// P1.1: literals are counted over all clauses, and looked at in order.
func TestRightLits(t *testing.T) {
	full := make(api.Clause, api.MaxLits)
	for i := range full {
		full[i] = api.Lit(1 - i%2*2)
	}
	quarter := full[:api.MaxLits/4]
	for _, x := range []struct {
		name string
		cs   []api.Clause
		want api.Errno
	}{
		{"full", []api.Clause{full}, api.OK},
		{"full in parts", []api.Clause{nil, quarter, quarter, {}, quarter, quarter, {}}, api.OK},
		{"one past in a clause of its own", []api.Clause{full, {}, {1}}, api.ErrLimit},
		{"one past in parts", []api.Clause{quarter, quarter, quarter, quarter, {-1}}, api.ErrLimit},
		{"one past in one clause", []api.Clause{append(slices.Clone(full), 1)}, api.ErrLimit},
		{"one past, which is 0", []api.Clause{full, {0}}, api.ErrLimit},
		{"one past, which is of no variable", []api.Clause{full, {2}}, api.ErrLimit},
		{"0 ahead of one past", []api.Clause{{0}, full}, api.ErrLit},
		{"0 as the last that may be", []api.Clause{full[1:], {0}, {1}}, api.ErrLit},
		{"one past ahead of 0", []api.Clause{full, {1, 0}}, api.ErrLimit},
	} {
		if e := Right(api.Formula{Vars: 1, Clauses: x.cs}); e != x.want {
			t.Errorf("%s: %d, want %d", x.name, e, x.want)
		}
	}
}

// P1.1: which literals a formula may have.
func TestRightLit(t *testing.T) {
	for _, x := range []struct {
		vars int
		c    api.Clause
		want api.Errno
	}{
		{2, api.Clause{1, -1, 2, -2, 1, 1}, api.OK},
		{2, api.Clause{1, -3}, api.ErrLit},
		{2, api.Clause{3}, api.ErrLit},
		{2, api.Clause{1, 2, 0}, api.ErrLit},
		{0, api.Clause{1}, api.ErrLit},
		{0, api.Clause{-1}, api.ErrLit},
		{0, api.Clause{0}, api.ErrLit},
		{api.MaxVar, api.Clause{api.MaxVar, -api.MaxVar}, api.OK},
		{api.MaxVar, api.Clause{api.MaxVar + 1}, api.ErrLit},
		{api.MaxVar, api.Clause{-api.MaxVar - 1}, api.ErrLit},
		{api.MaxVar, api.Clause{leastLit}, api.ErrLit},
		{api.MaxVar, api.Clause{-greatestLit}, api.ErrLit},
		{api.MaxVar, api.Clause{greatestLit}, api.ErrLit},
	} {
		for _, cs := range [][]api.Clause{{x.c}, {nil, {}, x.c}, {x.c, nil}} {
			if e := Right(api.Formula{Vars: x.vars, Clauses: cs}); e != x.want {
				t.Errorf("%d variables, %v: %d, want %d", x.vars, cs, e, x.want)
			}
		}
	}
}

// P1.2: Var.
func TestVar(t *testing.T) {
	for _, x := range []struct {
		l    api.Lit
		want int
	}{{0, 0}, {1, 1}, {-1, 1}, {7, 7}, {-7, 7}, {api.MaxVar, api.MaxVar}, {-api.MaxVar, api.MaxVar}, {greatestLit, 2147483647}, {-greatestLit, 2147483647}, {leastLit, 2147483648}} {
		if v := Var(x.l); v != x.want {
			t.Errorf("Var(%d): %d, want %d", x.l, v, x.want)
		}
	}
}

// P1.2: Normal, of the chapter's examples and of the edges.
func TestNormal(t *testing.T) {
	for _, x := range []struct {
		c, want api.Clause
		both    bool
	}{
		{api.Clause{3, -1, 3, 2}, api.Clause{-1, 2, 3}, false},
		{api.Clause{1, -1}, api.Clause{-1, 1}, true},
		{nil, nil, false},
		{api.Clause{}, nil, false},
		{api.Clause{5}, api.Clause{5}, false},
		{api.Clause{-2, -2, -2}, api.Clause{-2}, false},
		{api.Clause{10, -9, 2, -10, 1}, api.Clause{1, 2, -9, -10, 10}, true},
		{api.Clause{1, 2, -3, 3}, api.Clause{1, 2, -3, 3}, true},
		{api.Clause{0}, api.Clause{0}, false},
		{api.Clause{1, 0, -1, 0}, api.Clause{0, -1, 1}, true},
		{api.Clause{leastLit, leastLit}, api.Clause{leastLit}, false},
		{api.Clause{leastLit, greatestLit, 0, -1}, api.Clause{0, -1, greatestLit, leastLit}, false},
		{api.Clause{greatestLit, 1, -greatestLit}, api.Clause{1, -greatestLit, greatestLit}, true},
	} {
		c, both := Normal(x.c)
		if !slices.Equal(c, x.want) || both != x.both {
			t.Errorf("Normal(%v): %v, %t, want %v, %t", x.c, c, both, x.want, x.both)
		}
	}
}

// P1.2: Normal of all small clauses, and of long ones.
func TestNormalAll(t *testing.T) {
	for _, c := range clausesUpTo(4, -3, -2, -1, 0, 1, 2, 3) {
		got, both := Normal(c)
		checkNormal(t, c, got, both)
	}
	r := rand.New(rand.NewSource(1))
	for n := range 200 {
		c := make(api.Clause, n)
		for i := range c {
			c[i] = api.Lit(r.Uint32()) >> (n % 32)
		}
		got, both := Normal(c)
		checkNormal(t, c, got, both)
	}
}

// P1.3, by the chapter's examples and the edges.
func TestSets(t *testing.T) {
	for _, x := range []struct {
		a, b         api.Clause
		same, aInB   bool
		alsoBackward bool
	}{
		{api.Clause{1, 2, 1}, api.Clause{2, 1}, true, true, true},
		{api.Clause{2}, api.Clause{1, 2}, false, true, false},
		{api.Clause{1, 2}, api.Clause{2}, false, false, true},
		{nil, nil, true, true, true},
		{nil, api.Clause{}, true, true, true},
		{nil, api.Clause{1}, false, true, false},
		{api.Clause{1}, api.Clause{-1}, false, false, false},
		{api.Clause{1, 1, 1}, api.Clause{1}, true, true, true},
		{api.Clause{1, -1}, api.Clause{-1, 1}, true, true, true},
		{api.Clause{leastLit}, api.Clause{greatestLit}, false, false, false},
		{api.Clause{leastLit}, api.Clause{leastLit, 0}, false, true, false},
	} {
		if Same(x.a, x.b) != x.same || Same(x.b, x.a) != x.same {
			t.Errorf("Same(%v, %v): not %t", x.a, x.b, x.same)
		}
		if Subsumes(x.a, x.b) != x.aInB || Subsumes(x.b, x.a) != x.alsoBackward {
			t.Errorf("Subsumes(%v, %v), or backward", x.a, x.b)
		}
	}
}

// P1.3, of all pairs of small clauses.
func TestSetsAll(t *testing.T) {
	all := clausesUpTo(3, -2, -1, 0, 1, 2)
	for _, a := range all {
		for _, b := range all {
			in, back := within(a, b), within(b, a)
			if Subsumes(a, b) != in {
				t.Fatalf("Subsumes(%v, %v): not %t", a, b, in)
			}
			if Same(a, b) != (in && back) {
				t.Fatalf("Same(%v, %v): not %t", a, b, in && back)
			}
		}
	}
}

// P1.3, of clauses of all lengths about that at which they are asked in another way, and of a long one.
func TestSetsLong(t *testing.T) {
	for _, n := range []int{1, few - 1, few, few + 1, few + 2, 5 * few, 100000} {
		b := make(api.Clause, n)
		for i := range b {
			b[i] = api.Lit((i*7919)%n + 1)
			if b[i]%3 == 0 {
				b[i] = -b[i]
			}
		}
		back := slices.Clone(b)
		slices.Reverse(back)
		twice := append(slices.Clone(back), b...)
		for _, a := range []api.Clause{b, back, twice} {
			if !Same(a, b) || !Same(b, a) || !Subsumes(a, b) || !Subsumes(b, a) {
				t.Errorf("%d literals: the same set, and not the same", n)
			}
		}
		if Same(back[1:], b) || Subsumes(b, back[1:]) || !Subsumes(back[1:], b) {
			t.Errorf("%d literals: one wanting", n)
		}
		for _, i := range []int{0, n / 2, n - 1} {
			other := slices.Clone(back)
			other[i] = -other[i]
			if Same(other, b) || Subsumes(other, b) || Subsumes(b, other) {
				t.Errorf("%d literals: the one at %d negated", n, i)
			}
		}
	}
}

// P1.4, by the chapter's examples and the edges.
func TestValue(t *testing.T) {
	m := api.Model{true, true}
	for _, x := range []struct {
		c    api.Clause
		m    api.Model
		want bool
	}{
		{api.Clause{1, -2}, m, true},
		{api.Clause{-1, 3}, m, false},
		{api.Clause{-3}, m, false},
		{api.Clause{3}, m, false},
		{api.Clause{2}, m, true},
		{api.Clause{-2}, m, false},
		{api.Clause{-2}, api.Model{true, false}, true},
		{api.Clause{0}, m, false},
		{api.Clause{0, 0, 1}, m, true},
		{api.Clause{0}, api.Model{false}, false},
		{api.Clause{1, -1}, nil, false},
		{api.Clause{1, -1}, api.Model{}, false},
		{api.Clause{leastLit, -greatestLit, greatestLit}, m, false},
		{nil, m, false},
		{api.Clause{}, nil, false},
	} {
		if Value(x.c, x.m) != x.want {
			t.Errorf("Value(%v, %v): not %t", x.c, x.m, x.want)
		}
	}
}

// P1.4, of all small clauses and models.
func TestValueAll(t *testing.T) {
	for _, m := range modelsUpTo(3) {
		for _, c := range clausesUpTo(3, -4, -3, -2, -1, 0, 1, 2, 3, 4) {
			if Value(c, m) != clauseTrue(c, m) {
				t.Fatalf("Value(%v, %v): not %t", c, m, clauseTrue(c, m))
			}
		}
	}
}

// P1.4: a formula is true, if all its clauses are; its Vars are not looked at.
func TestHolds(t *testing.T) {
	m := api.Model{true, false}
	for _, vars := range []int{-1, 0, 2, 9, math.MaxInt} {
		for _, x := range []struct {
			cs   []api.Clause
			m    api.Model
			want bool
		}{
			{nil, nil, true},
			{[]api.Clause{}, m, true},
			{[]api.Clause{{}}, m, false},
			{[]api.Clause{nil}, nil, false},
			{[]api.Clause{{1}, {-2}, {2, 1}}, m, true},
			{[]api.Clause{{2}, {1}, {-2}}, m, false},
			{[]api.Clause{{1}, {2}, {-2}}, m, false},
			{[]api.Clause{{1}, {-2}, {-1}}, m, false},
			{[]api.Clause{{1}, nil}, m, false},
			{[]api.Clause{{1}, {3, -3}}, m, false},
			{[]api.Clause{{1, 0}, {0}}, m, false},
		} {
			if Holds(api.Formula{Vars: vars, Clauses: x.cs}, x.m) != x.want {
				t.Errorf("Holds(%d %v, %v): not %t", vars, x.cs, x.m, x.want)
			}
		}
	}
}

// P1.5: what is resolved.
func TestResolve(t *testing.T) {
	for _, x := range []struct {
		a, b api.Clause
		v    int
		want api.Clause
		both bool
	}{
		{api.Clause{1, 2}, api.Clause{-1, 3}, 1, api.Clause{2, 3}, false},
		{api.Clause{1, 2}, api.Clause{-1, -2}, 1, api.Clause{-2, 2}, true},
		{api.Clause{1}, api.Clause{-1}, 1, nil, false},
		{api.Clause{1, 1, 1}, api.Clause{-1, -1}, 1, nil, false},
		{api.Clause{3, 1, 2, 3, 1}, api.Clause{-1, 2, -1, 2}, 1, api.Clause{2, 3}, false},
		{api.Clause{1, -1, 2}, api.Clause{-1, 3}, 1, api.Clause{-1, 2, 3}, false},
		{api.Clause{1, 2}, api.Clause{-1, 1, 3}, 1, api.Clause{1, 2, 3}, false},
		{api.Clause{1, -1}, api.Clause{-1, 1}, 1, api.Clause{-1, 1}, true},
		{api.Clause{5, 4}, api.Clause{4, -5}, 5, api.Clause{4}, false},
		{api.Clause{greatestLit, leastLit}, api.Clause{-greatestLit, 0}, greatestLit, api.Clause{0, leastLit}, false},
	} {
		c, both, e := Resolve(x.a, x.b, x.v)
		if !slices.Equal(c, x.want) || both != x.both || e != api.OK {
			t.Errorf("Resolve(%v, %v, %d): %v, %t, %d", x.a, x.b, x.v, c, both, e)
		}
	}
}

// P1.5: what is refused, with nothing beside the error.
func TestResolveWrong(t *testing.T) {
	huge := math.MaxInt32
	a := api.Clause{1, 0, -1, leastLit, greatestLit, -greatestLit}
	for _, x := range []struct {
		a, b api.Clause
		v    int
	}{
		{api.Clause{1}, api.Clause{1}, 1},
		{api.Clause{-1}, api.Clause{1}, 1},
		{api.Clause{-1}, api.Clause{-1}, 1},
		{api.Clause{1, 2}, api.Clause{-1, 3}, 2},
		{api.Clause{1, 2}, api.Clause{-1, 3}, 3},
		{api.Clause{2}, api.Clause{-1}, 1},
		{nil, nil, 1},
		{api.Clause{1}, nil, 1},
		{nil, api.Clause{-1}, 1},
		{a, a, 0},
		{a, a, -1},
		{a, a, -huge},
		{a, a, -huge - 1},
		{a, a, huge + 1},
		{a, a, 2*huge + 2},
		{a, a, 2*huge + 3},
		{a, a, math.MaxInt},
		{a, a, math.MinInt},
		{a, a, math.MinInt + 1},
	} {
		c, both, e := Resolve(x.a, x.b, x.v)
		if len(c) != 0 || both || e != api.ErrArg {
			t.Errorf("Resolve(%v, %v, %d): %v, %t, %d", x.a, x.b, x.v, c, both, e)
		}
	}
}

// P1.5, of all pairs of small clauses.
func TestResolveAll(t *testing.T) {
	all := clausesUpTo(3, -2, -1, 0, 1, 2)
	for _, a := range all {
		for _, b := range all {
			c, both, e := Resolve(a, b, 2)
			if !slices.Contains(a, 2) || !slices.Contains(b, -2) {
				if len(c) != 0 || both || e != api.ErrArg {
					t.Fatalf("Resolve(%v, %v, 2): %v, %t, %d", a, b, c, both, e)
				}
				continue
			}
			if e != api.OK {
				t.Fatalf("Resolve(%v, %v, 2): %d", a, b, e)
			}
			rest := slices.DeleteFunc(slices.Clone(a), func(l api.Lit) bool { return l == 2 })
			rest = append(rest, slices.DeleteFunc(slices.Clone(b), func(l api.Lit) bool { return l == -2 })...)
			checkNormal(t, rest, c, both)
		}
	}
}

// guarded is a clause with literals behind its length, and a look at whether any was changed.
func guarded(c api.Clause) (api.Clause, func() bool) {
	whole := append(slices.Clone(c), 77, 76, 75, 77)
	was := slices.Clone(whole)
	return whole[:len(c)], func() bool { return slices.Equal(whole, was) }
}

// P1.6: what is handed in is only read, what lies behind its length too.
func TestOnlyRead(t *testing.T) {
	long := make(api.Clause, 4*few)
	for i := range long {
		long[i] = api.Lit(3 - i%5)
	}
	for _, x := range []struct{ a, b api.Clause }{
		{api.Clause{3, 1, 2, 1}, api.Clause{-1, 3, 2, -1}},
		{api.Clause{1}, api.Clause{-1}},
		{nil, nil},
		{long, long},
		{append(slices.Clone(long), 1), append(slices.Clone(long), -1)},
	} {
		a, aKept := guarded(x.a)
		b, bKept := guarded(x.b)
		m := append(api.Model{true, false}, true, false)
		f := api.Formula{Vars: 3, Clauses: append([]api.Clause{a, b}, api.Clause{9})[:2]}
		Right(f)
		Normal(a)
		Same(a, b)
		Subsumes(a, b)
		Subsumes(b, a)
		Value(a, m[:2])
		Holds(f, m[:2])
		Resolve(a, b, 1)
		Resolve(b, a, 1)
		if !aKept() || !bKept() || !slices.Equal(m, api.Model{true, false, true, false}) {
			t.Errorf("%v, %v: changed", x.a, x.b)
		}
		if !slices.Equal(f.Clauses[0], x.a) || !slices.Equal(f.Clauses[1], x.b) || !slices.Equal(f.Clauses[:3][2], api.Clause{9}) {
			t.Errorf("%v, %v: the formula's row is changed", x.a, x.b)
		}
	}
}

// overwrite writes into all of a clause's memory, what lies behind its length included.
func overwrite(c api.Clause) {
	c = c[:cap(c)]
	for i := range c {
		c[i] = 99
	}
}

// P1.6: answers share no memory with what was handed in, nor with each other.
func TestNewMemory(t *testing.T) {
	for _, c := range []api.Clause{{1}, {1, 2, 3}, {3, 2, 1}, {1, 1}, {}, {1, -1}} {
		x, kept := guarded(c)
		first, _ := Normal(x)
		second, _ := Normal(x)
		want := slices.Clone(second)
		overwrite(first)
		if !kept() || !slices.Equal(second, want) {
			t.Errorf("Normal(%v) shares memory", c)
		}
		overwrite(x)
		if !slices.Equal(second, want) {
			t.Errorf("Normal(%v) shares memory", c)
		}
	}
	for _, pair := range [][2]api.Clause{{{1}, {-1}}, {{2, 1}, {-1}}, {{1}, {-1, 2, 3}}, {{1, 2, 3}, {-1, 4}}} {
		a, aKept := guarded(pair[0])
		b, bKept := guarded(pair[1])
		first, _, _ := Resolve(a, b, 1)
		second, _, _ := Resolve(a, b, 1)
		want := slices.Clone(second)
		overwrite(first)
		if !aKept() || !bKept() || !slices.Equal(second, want) {
			t.Errorf("Resolve(%v, %v, 1) shares memory", a, b)
		}
		overwrite(a)
		overwrite(b)
		if !slices.Equal(second, want) {
			t.Errorf("Resolve(%v, %v, 1) shares memory", pair[0], pair[1])
		}
	}
}

// P1.7: Normal changes no value, and what has a literal and its negation is true where their variable has a value.
func TestNormalKeepsValue(t *testing.T) {
	for _, c := range clausesUpTo(3, -3, -2, -1, 0, 1, 2, 3) {
		n, both := Normal(c)
		for _, m := range modelsUpTo(3) {
			if Value(n, m) != Value(c, m) {
				t.Fatalf("%v in %v: Normal changes its value", c, m)
			}
			if both && len(m) == 3 && !Value(c, m) {
				t.Fatalf("%v in %v: has a literal and its negation, and is false", c, m)
			}
		}
	}
}

// P1.7: what subsumes is true only where what it subsumes is; what is resolved is true wherever both are.
func TestConsequences(t *testing.T) {
	all, models := clausesUpTo(3, -2, -1, 1, 2), modelsUpTo(2)
	for _, a := range all {
		for _, b := range all {
			within := Subsumes(a, b)
			c, _, e := Resolve(a, b, 1)
			for _, m := range models {
				if within && Value(a, m) && !Value(b, m) {
					t.Fatalf("%v subsumes %v, and is true where that is not: %v", a, b, m)
				}
				if e == api.OK && len(m) >= 1 && Value(a, m) && Value(b, m) && !Value(c, m) {
					t.Fatalf("%v of %v and %v is not true in %v", c, a, b, m)
				}
			}
		}
	}
}

// Great arguments are answered too, and in order.
func TestHuge(t *testing.T) {
	c := make(api.Clause, 1<<20)
	for i := range c {
		c[i] = api.Lit((i*7919)%len(c) + 1)
	}
	n, both := Normal(c)
	if len(n) != len(c) || both || n[0] != 1 || n[len(n)-1] != api.Lit(len(c)) {
		t.Error("Normal of a long clause")
	}
	b := slices.Clone(c)
	b[0] = -1
	if r, both, e := Resolve(c, b, 1); len(r) != len(c)-1 || both || e != api.OK {
		t.Errorf("Resolve of long clauses: %d literals, %t, %d", len(r), both, e)
	}
	if !Same(c, n) || Same(c, b) {
		t.Error("Same of long clauses")
	}
}
