package unit

import (
	"math/rand"
	"reflect"
	"testing"

	"threshing/api"
	"threshing/base"
	"threshing/cnf"
	"threshing/sample"
	"threshing/truth"
)

// propagated asks for a trail, and for what is promised of every one.
func propagated(t *testing.T, b *base.Base, first api.Clause, without int64) Trail {
	t.Helper()
	x, e := Propagate(b, first, without)
	if want := plainTrail(b, first, without); e != api.OK || !same(x, want) {
		t.Fatalf("%v: Propagate(%v, %d): %v %d, not %v", b.Entries(), first, without, x, e, want)
	}
	f := api.Formula{Vars: b.Vars()}
	for _, c := range b.Entries() {
		if c.ID == without {
			continue
		}
		f.Clauses = append(f.Clauses, c.Lits)
		if open, holds := plainOpen(c.Lits, x.True); x.Conflict == 0 && !holds && len(open) < 2 {
			t.Fatalf("%v: Propagate(%v, %d): %v, and %v has %v", b.Entries(), first, without, x, c, open)
		}
	}
	for _, l := range first {
		f.Clauses = append(f.Clauses, api.Clause{l})
	}
	truthful(t, f, x, first)
	return x
}

// truthful holds a trail against all models of the clauses and of the first ones.
func truthful(t *testing.T, f api.Formula, x Trail, first api.Clause) {
	t.Helper()
	if x.Conflict != 0 {
		if _, has, e := truth.Find(f); has || e != api.OK {
			t.Fatalf("%v: %v, and there is a model", f, x)
		}
		return
	}
	for i, l := range x.True {
		if follows, e := truth.Implies(f, api.Clause{l}); !follows || e != api.OK {
			t.Fatalf("%v: %v, and %d does not follow", f, x, l)
		}
		if h := x.Upto(l); !slicesEqual(h, plainUpto(x, len(x.True)-len(x.Reasons), l)) {
			t.Fatalf("%v: Upto(%d) (%d): %v", x, l, i, h)
		}
	}
}

func slicesEqual(a, b []int64) bool {
	return len(a) == len(b) && (len(a) == 0 || reflect.DeepEqual(a, b))
}

// settled asks for some steps, and for what is promised of all of them.
func settled(t *testing.T, f api.Formula, b *base.Base, limit int) int {
	t.Helper()
	ahead, plain, all, some := b.Copy(), b.Copy(), sample.Models(b, true), sample.Models(b, false)
	n, e := Units(b, limit)
	want := plainUnits(t, plain, limit)
	if n != want || e != api.OK || !reflect.DeepEqual(b.Rules(), plain.Rules()) {
		t.Fatalf("%v: Units(%d): %d %d %v, not %d %v", ahead.Entries(), limit, n, e, b.Rules(), want, plain.Rules())
	}
	if !reflect.DeepEqual(sample.Models(b, true), all) {
		t.Fatalf("%v: Units(%d): other models: %v", ahead.Entries(), limit, b.Entries())
	}
	if follows(all, some) && !reflect.DeepEqual(sample.Models(b, false), some) {
		t.Fatalf("%v: Units(%d): other models of what is not redundant: %v", ahead.Entries(), limit, b.Entries())
	}
	if len(b.Stack()) == 0 && !sample.Taken(f, b) {
		t.Fatalf("%v: Units(%d): the checker does not take %v", f, limit, b.Steps())
	}
	return n
}

// follows tells whether all rows of values that are models of the second kind are of the first.
func follows(all, some []bool) bool {
	for i, holds := range some {
		if holds && !all[i] {
			return false
		}
	}
	return true
}

// tidy asks that nothing is left to be done behind a call that was not stopped.
func tidy(t *testing.T, b *base.Base) {
	t.Helper()
	root, steps := plainTrail(b, nil, 0), len(b.Rules())
	if n, e := Units(b, 99999); n != 0 || e != api.OK || len(b.Rules()) != steps {
		t.Fatalf("%v: once more: %d %d", b.Entries(), n, e)
	}
	if root.Conflict != 0 {
		return
	}
	for _, c := range b.Entries() {
		for _, l := range c.Lits {
			for _, m := range root.True {
				if cnf.Var(l) == cnf.Var(m) && plainUnit(b, m) != c.ID {
					t.Fatalf("%v: %v has %d", b.Entries(), c, l)
				}
			}
		}
	}
}

// firsts is some literals that do not contradict each other.
func firsts(r *rand.Rand, vars int) api.Clause {
	var c api.Clause
	for _, v := range r.Perm(vars)[:r.Intn(vars+1)] {
		l := api.Lit(v + 1)
		if r.Intn(2) == 0 {
			l = -l
		}
		c = append(c, l)
		if r.Intn(5) == 0 {
			c = append(c, c[r.Intn(len(c))])
		}
	}
	return c
}

// P20.1, P20.4: all rows of up to three clauses over two variables, from each of the first ones, without each clause.
func TestAllRows(t *testing.T) {
	var of2 []api.Clause
	for n := range 16 {
		var c api.Clause
		for i, l := range lits(1, -1, 2, -2) {
			if n>>i&1 == 1 {
				c = append(c, l)
			}
		}
		of2 = append(of2, c)
	}
	starts := []api.Clause{nil, lits(1), lits(-1), lits(2), lits(-2), lits(1, 2), lits(-2, 1)}
	for n := range 16 * 16 * 16 {
		f := api.Formula{Vars: 2, Clauses: []api.Clause{of2[n&15], of2[n>>4&15], of2[n>>8]}}
		b, _ := base.New(f)
		for i, first := range starts {
			propagated(t, b, first, int64((n+i)%5))
		}
		settled(t, f, b, n%4)
		settled(t, f, b, 99)
		tidy(t, b)
	}
}

// drawn is bytes for a base of a sample.
func drawn(r *rand.Rand) []byte {
	data := make([]byte, r.Intn(120))
	r.Read(data)
	return data
}

// P20.1, P20.4: drawn bases on which much was done ahead.
func TestDrawnTrails(t *testing.T) {
	r := rand.New(rand.NewSource(20))
	conflicts, followed := 0, 0
	for range 3000 {
		_, b := sample.Base(drawn(r))
		for range 4 {
			x := propagated(t, b, firsts(r, b.Vars()), int64(r.Intn(int(b.Last())+2)))
			if x.Conflict != 0 {
				conflicts++
			}
			followed += len(x.Reasons)
		}
	}
	if conflicts < 500 || followed < 2000 {
		t.Error(conflicts, followed)
	}
}

// P20.2, P20.5: drawn bases, settled bit by bit.
func TestDrawnUnits(t *testing.T) {
	r := rand.New(rand.NewSource(5))
	total := 0
	for range 4000 {
		f, b := sample.Base(drawn(r))
		for range r.Intn(4) {
			total += settled(t, f, b, r.Intn(4))
		}
		total += settled(t, f, b, 1<<40)
		tidy(t, b)
	}
	if total < 4000 {
		t.Error(total)
	}
}

// P20.1: the same base and first ones, the same trail, whatever was asked between.
func TestAgain(t *testing.T) {
	r := rand.New(rand.NewSource(6))
	for range 200 {
		_, b := sample.Base(drawn(r))
		first := firsts(r, b.Vars())
		a, _ := Propagate(b, first, 0)
		propagated(t, b, nil, 0)
		if c, _ := Propagate(b, first, 0); !same(a, c) {
			t.Fatal(a, c)
		}
	}
}

// P20.2: two chains as long as a formula lets them be: nothing is gone over again for each literal.
func TestLong(t *testing.T) {
	const n = 300000
	f := api.Formula{Vars: n, Clauses: make([]api.Clause, 0, n)}
	for v := api.Lit(n); v > 1; v-- {
		f.Clauses = append(f.Clauses, lits(-v+1, v))
	}
	f.Clauses = append(f.Clauses, lits(1))
	b, _ := base.New(f)
	x, e := Propagate(b, nil, 0)
	if e != api.OK || len(x.True) != n || len(x.Reasons) != n || x.Conflict != 0 || x.Reasons[0] != n {
		t.Fatal(len(x.True), e)
	}
	// A unit's hints are all those up to it: only a few are asked for.
	if d, e := Units(b, 50); d != 50 || e != api.OK {
		t.Fatal(d, e)
	}
	if l := b.Entries(); len(l) != n+50-1+1 || l[n].Lits[0] != 2 {
		t.Error(len(l), l[n])
	}
}

// P20.1 to P20.5: bases out of any bytes.
func FuzzUnit(f *testing.F) {
	r := rand.New(rand.NewSource(1))
	for range 20 {
		f.Add(drawn(r), int64(r.Intn(9)), r.Intn(5))
	}
	f.Fuzz(func(t *testing.T, data []byte, seed int64, limit int) {
		g, b := sample.Base(data)
		r := rand.New(rand.NewSource(seed))
		propagated(t, b, firsts(r, b.Vars()), seed)
		propagated(t, b, nil, 0)
		settled(t, g, b, max(limit, 0))
		settled(t, g, b, 99999)
		tidy(t, b)
	})
}
