package dimacs

import (
	"math"
	"math/rand"
	"slices"
	"strings"
	"testing"

	"threshing/api"
)

// prints asks that Print of f is s.
func prints(t *testing.T, f api.Formula, s string) {
	t.Helper()
	if b, e := Print(f); e != api.OK || string(b) != s {
		t.Errorf("Print(%v) = %q, %d, want %q", f, b, e, s)
	}
}

func TestPrint(t *testing.T) {
	prints(t, formula(0), "p cnf 0 0\n")
	prints(t, api.Formula{Clauses: []api.Clause{}}, "p cnf 0 0\n")
	prints(t, formula(5), "p cnf 5 0\n")
	prints(t, formula(0, nil, api.Clause{}), "p cnf 0 2\n0\n0\n")
	prints(t, formula(2, api.Clause{1, -2}, api.Clause{2}), "p cnf 2 2\n1 -2 0\n2 0\n")
	prints(t, formula(3, api.Clause{3, 3, -3, 1}, nil, api.Clause{-1}), "p cnf 3 3\n3 3 -3 1 0\n0\n-1 0\n")
	prints(t, formula(api.MaxVar, api.Clause{-api.MaxVar, api.MaxVar, 100}), "p cnf 1048576 1\n-1048576 1048576 100 0\n")
}

func TestPrintErrors(t *testing.T) {
	many := make([]api.Clause, api.MaxClauses+1)
	long := make(api.Clause, api.MaxLits+1)
	for i := range long {
		long[i] = 1
	}
	for _, x := range []struct {
		what string
		f    api.Formula
		e    api.Errno
	}{
		{"fewer variables than none", api.Formula{Vars: -1}, api.ErrArg},
		{"the fewest variables", api.Formula{Vars: math.MinInt}, api.ErrArg},
		{"one variable too many", api.Formula{Vars: api.MaxVar + 1}, api.ErrArg},
		{"one variable too many, with a wrong literal", formula(api.MaxVar+1, api.Clause{0}), api.ErrArg},
		{"one clause too many", api.Formula{Vars: 1, Clauses: many}, api.ErrLimit},
		{"one literal too many", formula(1, long), api.ErrLimit},
		{"a variable that is not there", formula(1, api.Clause{1}, api.Clause{2}), api.ErrLit},
		{"its negation", formula(1, api.Clause{-2}), api.ErrLit},
		{"0", formula(1, api.Clause{1, 0}), api.ErrLit},
		{"the least literal", formula(api.MaxVar, api.Clause{math.MinInt32}), api.ErrLit},
		{"the greatest literal", formula(api.MaxVar, api.Clause{math.MaxInt32}), api.ErrLit},
	} {
		if b, e := Print(x.f); e != x.e || len(b) != 0 {
			t.Errorf("%s: %.60q, %d, want %d", x.what, b, e, x.e)
		}
	}
}

func TestPrintLimits(t *testing.T) {
	b, e := Print(api.Formula{Clauses: make([]api.Clause, api.MaxClauses)})
	if want := "p cnf 0 1048576\n" + strings.Repeat("0\n", api.MaxClauses); e != api.OK || string(b) != want {
		t.Errorf("as many clauses as may be: %d bytes, %d", len(b), e)
	}
	long := make(api.Clause, api.MaxLits)
	for i := range long {
		long[i] = -1
	}
	b, e = Print(formula(1, long))
	if want := "p cnf 1 1\n" + strings.Repeat("-1 ", api.MaxLits) + "0\n"; e != api.OK || string(b) != want {
		t.Errorf("as many literals as may be: %d bytes, %d", len(b), e)
	}
}

// anyFormula is one of a few variables and clauses.
func anyFormula(r *rand.Rand) api.Formula {
	f := api.Formula{Vars: r.Intn(200)}
	for range r.Intn(6) {
		var c api.Clause
		for range r.Intn(6) {
			if f.Vars > 0 {
				l := api.Lit(1 + r.Intn(f.Vars))
				c = append(c, l-2*l*api.Lit(r.Intn(2)))
			}
		}
		f.Clauses = append(f.Clauses, c)
	}
	return f
}

// P2.5: there and back.
func TestPrintThenParse(t *testing.T) {
	r := rand.New(rand.NewSource(25))
	for range 5000 {
		f := anyFormula(r)
		b, e := Print(f)
		g, e1, at := Parse(b)
		if e != api.OK || e1 != api.OK || at != 0 || !sameFormula(f, g) {
			t.Fatalf("%v, printed as %q, %d, is parsed as %v, %d, %d", f, b, e, g, e1, at)
		}
		again, _ := Print(g)
		if !slices.Equal(b, again) {
			t.Fatalf("%q is printed again as %q", b, again)
		}
	}
}

func TestParseThenPrintThenParse(t *testing.T) {
	for _, s := range []string{
		"p cnf 0 0", "c\n\np cnf 0 2\n0\n\n0", "c x\np cnf 2 2\n1 -2 0 2\nc\n0", "\tp  cnf 3\r1 \n1 1\n-1\n3 0\n",
	} {
		f, e, _ := Parse([]byte(s))
		b, e1 := Print(f)
		g, e2, at := Parse(b)
		if e != api.OK || e1 != api.OK || e2 != api.OK || at != 0 || !sameFormula(f, g) {
			t.Errorf("%q: %v, printed as %q, then %v", s, f, b, g)
		}
	}
}

// P2.4: the formula stays as it is, what lies behind its lists' lengths too, and each answer is memory of its own.
func TestPrintMemory(t *testing.T) {
	lits := api.Clause{1, -2, 7, 8}
	clauses := []api.Clause{lits[:2], lits[1:2], {9}}
	f := api.Formula{Vars: 2, Clauses: clauses[:2]}
	a, _ := Print(f)
	b, _ := Print(f)
	for i := range a {
		a[i] = 'x'
	}
	if want := "p cnf 2 2\n1 -2 0\n-2 0\n"; string(b) != want {
		t.Errorf("another answer was changed: %q", b)
	}
	if !slices.Equal(lits, api.Clause{1, -2, 7, 8}) || !slices.Equal(clauses[2], api.Clause{9}) || len(f.Clauses) != 2 {
		t.Errorf("the formula was changed: %v, %v", lits, clauses)
	}
}
