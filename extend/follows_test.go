package extend

import (
	"math/rand"
	"slices"
	"testing"

	"threshing/api"
	"threshing/base"
	"threshing/cnf"
)

func newBase(t *testing.T, f api.Formula) *base.Base {
	t.Helper()
	b, e := base.New(f)
	if e != api.OK {
		t.Fatal(e)
	}
	return b
}

// left is the live clauses that are not redundant, but that of an id.
func left(b *base.Base, but int64) []api.Clause {
	var l []api.Clause
	for _, c := range b.Entries() {
		if !c.Red && c.ID != but {
			l = append(l, c.Lits)
		}
	}
	return l
}

// tally is what a test has come to, so that it may say whether that was enough.
type tally struct{ weakened, models, turned, bad, astray int }

// comesOut asks that each model of what is left is made one of all these clauses by the base's stack.
func comesOut(t *testing.T, b *base.Base, all []api.Clause, n *tally) {
	t.Helper()
	stack, rest := b.Stack(), left(b, 0)
	for _, m := range modelsOf(b.Vars()) {
		if !allTrue(rest, m) {
			continue
		}
		got, e := Extend(m, stack)
		if e != api.OK || len(got) != b.Vars() || !allTrue(all, got) {
			t.Fatalf("%v, left %v, stack %v: %v comes out as %v %d", all, rest, stack, m, got, e)
		}
		n.models++
		if !slices.Equal(got, m) {
			n.turned++
		}
	}
}

// astray tells whether a model of what is left comes out as none of all these clauses.
func astray(b *base.Base, all []api.Clause) bool {
	stack, rest := b.Stack(), left(b, 0)
	for _, m := range modelsOf(b.Vars()) {
		if !allTrue(rest, m) {
			continue
		}
		if got, _ := Extend(m, stack); !allTrue(all, got) {
			return true
		}
	}
	return false
}

// weakenAll takes clause after clause away, in each order and with each of these witnesses that is good, and asks each time what comes out.
func weakenAll(t *testing.T, b *base.Base, f api.Formula, witnesses []api.Clause, n *tally) {
	t.Helper()
	comesOut(t, b, f.Clauses, n)
	for _, c := range b.Entries() {
		others := left(b, c.ID)
		for _, w := range witnesses {
			next := b.Copy()
			if next.Weaken(c.ID, w) != api.OK {
				continue
			}
			if !isGood(others, with(w, c.Lits), f.Vars) {
				n.bad++
				if astray(next, f.Clauses) {
					n.astray++
				}
				continue
			}
			n.weakened++
			weakenAll(t, next, f, witnesses, n)
		}
	}
}

// rising tells the rows of at most n of these in which none stands behind a later one.
func rising(n int, of []api.Clause) [][]api.Clause {
	all := [][]api.Clause{nil}
	if n == 0 {
		return all
	}
	for i, c := range of {
		for _, r := range rising(n-1, of[i:]) {
			all = append(all, append([]api.Clause{c}, r...))
		}
	}
	return all
}

// P8.3: all formulas of few short clauses of two variables, taken away with all good witnesses, in all orders.
func TestComesOutAll(t *testing.T) {
	clauses := []api.Clause{{}, {1}, {-1}, {2}, {-2}, {1, 2}, {-1, 2}, {1, -2}, {-1, -2}, {1, -1}}
	var witnesses []api.Clause
	for _, w := range clausesUpTo(2, -2, -1, 1, 2) {
		if len(w) < 2 || w[0] != -w[1] {
			witnesses = append(witnesses, w)
		}
	}
	var n tally
	for _, l := range rising(3, clauses) {
		f := api.Formula{Vars: 2, Clauses: l}
		weakenAll(t, newBase(t, f), f, witnesses, &n)
	}
	if n.weakened < 10000 || n.turned < 10000 || n.models-n.turned < 10000 || n.bad < 1000 || n.astray < n.bad/2 {
		t.Errorf("%+v", n)
	}
}

// without tells whether a clause is without a literal and its negation.
func without(c api.Clause) bool {
	_, both := cnf.Normal(c)
	return !both
}

// drawnFormula is a formula of few clauses; most have a literal.
func drawnFormula(r *rand.Rand, vars int) api.Formula {
	f := api.Formula{Vars: vars}
	for range 1 + r.Intn(8) {
		c := drawnClause(r, vars, 3)
		if len(c) == 0 && r.Intn(20) > 0 {
			c = append(c, api.Lit(1+r.Intn(vars)))
		}
		f.Clauses = append(f.Clauses, c)
	}
	return f
}

// drawnWeaken takes a clause away with a drawn witness, if that is good, and tells whether it did.
func drawnWeaken(r *rand.Rand, b *base.Base) bool {
	all := b.Entries()
	if len(all) == 0 {
		return false
	}
	c := all[r.Intn(len(all))]
	if c.Red || len(c.Lits) == 0 {
		return false
	}
	w := append(lits(c.Lits[r.Intn(len(c.Lits))]), drawnClause(r, b.Vars(), 2)...)
	return isGood(left(b, c.ID), with(w, c.Lits), b.Vars()) && b.Weaken(c.ID, w) == api.OK
}

// P8.3: clauses of more variables, some of them several times, taken away as long as a good witness is soon found.
func TestComesOutDrawn(t *testing.T) {
	r := rand.New(rand.NewSource(83))
	var n tally
	for range 2500 {
		f := drawnFormula(r, 1+r.Intn(5))
		b := newBase(t, f)
		for range 30 {
			if drawnWeaken(r, b) {
				n.weakened++
			}
		}
		// Nothing was added: what is left and what stands on the stack are all clauses together.
		all := left(b, 0)
		for _, w := range b.Stack() {
			all = append(all, w.Clause)
		}
		if len(all) != len(f.Clauses) {
			t.Fatalf("%v of %v", all, f)
		}
		comesOut(t, b, all, &n)
		comesOut(t, b, f.Clauses, &n)
	}
	if n.weakened < 5000 || n.turned < 10000 || n.models-n.turned < 5000 {
		t.Errorf("%+v", n)
	}
}

// resolveSome adds what is resolved of two drawn clauses, redundant or not.
func resolveSome(r *rand.Rand, b *base.Base) bool {
	all := b.Entries()
	if len(all) < 2 {
		return false
	}
	x, y := all[r.Intn(len(all))], all[r.Intn(len(all))]
	for _, l := range x.Lits {
		if l < 0 || !slices.Contains(y.Lits, -l) || !without(x.Lits) || !without(y.Lits) {
			continue
		}
		if c, both, e := cnf.Resolve(x.Lits, y.Lits, int(l)); e == api.OK && !both {
			_, e = b.Add(c, []int64{x.ID, y.ID}, r.Intn(2) == 0)
			return e == api.OK
		}
	}
	return false
}

// lessen keeps, deletes or drops a drawn clause.
func lessen(r *rand.Rand, b *base.Base) bool {
	all := b.Entries()
	if len(all) == 0 {
		return false
	}
	x, y := all[r.Intn(len(all))].ID, all[r.Intn(len(all))].ID
	switch r.Intn(4) {
	case 0:
		return b.Keep(x) == api.OK
	case 1:
		return b.Delete(x) == api.OK
	case 2:
		return b.Drop(x, 0) == api.OK
	}
	return b.Drop(x, y) == api.OK
}

// P8.3: with all that may be done to a base between, each model of what is left comes out as one of the formula, at each time.
func TestComesOutBetween(t *testing.T) {
	r := rand.New(rand.NewSource(84))
	var n tally
	resolved, lessened := 0, 0
	for range 1500 {
		f := drawnFormula(r, 1+r.Intn(4))
		b := newBase(t, f)
		for range 25 {
			switch r.Intn(4) {
			case 0:
				if resolveSome(r, b) {
					resolved++
				}
			case 1:
				if lessen(r, b) {
					lessened++
				}
			default:
				if drawnWeaken(r, b) {
					n.weakened++
				}
			}
			comesOut(t, b, f.Clauses, &n)
		}
	}
	if n.weakened < 3000 || n.turned < 50000 || resolved < 500 || lessened < 500 {
		t.Errorf("%+v, %d resolved, %d lessened", n, resolved, lessened)
	}
}

// sideOf is the live clauses in which a literal is.
func sideOf(t *testing.T, b *base.Base, l api.Lit) []api.Entry {
	t.Helper()
	var all []api.Entry
	for _, id := range b.Occurs(l) {
		c, ok := b.Get(id)
		if !ok {
			t.Fatalf("%d is not live", id)
		}
		all = append(all, c)
	}
	return all
}

// resolveAway adds all that is resolved by a variable, and takes its clauses away, with its literals as their witnesses.
func resolveAway(t *testing.T, b *base.Base, v api.Lit) {
	t.Helper()
	positive, negative := sideOf(t, b, v), sideOf(t, b, -v)
	for _, x := range positive {
		for _, y := range negative {
			c, both, e := cnf.Resolve(x.Lits, y.Lits, int(v))
			if e != api.OK {
				t.Fatal(e)
			}
			if both {
				continue
			}
			if _, e := b.Add(c, []int64{x.ID, y.ID}, false); e != api.OK {
				t.Fatal(e)
			}
		}
	}
	for _, x := range positive {
		b.Weaken(x.ID, lits(v))
	}
	for _, y := range negative {
		b.Weaken(y.ID, lits(-v))
	}
	if len(b.Occurs(v))+len(b.Occurs(-v)) > 0 {
		t.Fatalf("%d is there still: %v", v, b.Entries())
	}
}

// P8.3: variables that are resolved away, one behind the other: their clauses stand on the stack, and the model gives each the value that makes them true.
func TestResolvedAway(t *testing.T) {
	r := rand.New(rand.NewSource(85))
	var n tally
	for range 1500 {
		f := api.Formula{Vars: 2 + r.Intn(3)}
		for _, c := range drawnFormula(r, f.Vars).Clauses {
			if without(c) {
				f.Clauses = append(f.Clauses, c)
			}
		}
		b := newBase(t, f)
		for _, v := range r.Perm(f.Vars)[:1+r.Intn(f.Vars)] {
			resolveAway(t, b, api.Lit(v+1))
			comesOut(t, b, f.Clauses, &n)
		}
	}
	if n.turned < 5000 {
		t.Errorf("%+v", n)
	}
}

// P8.3: of two literals that are the same, one stands for both; the model gives both one value.
func TestSameLiterals(t *testing.T) {
	f := api.Formula{Vars: 3, Clauses: []api.Clause{{-1, 2}, {1, -2}, {2, 3}, {-2, -3}}}
	b := newBase(t, f)
	for _, x := range []struct {
		c     api.Clause
		hints []int64
		id    int64
		w     api.Lit
	}{{lits(1, 3), []int64{2, 3}, 3, 2}, {lits(-1, -3), []int64{1, 4}, 4, -2}} {
		if _, e := b.Add(x.c, x.hints, false); e != api.OK {
			t.Fatal(e)
		}
		if e := b.Weaken(x.id, lits(x.w)); e != api.OK {
			t.Fatal(e)
		}
	}
	if b.Weaken(1, lits(2)) != api.OK || b.Weaken(2, lits(-2)) != api.OK {
		t.Fatal(b.Entries())
	}
	var n tally
	comesOut(t, b, f.Clauses, &n)
	if n.models != 4 || n.turned != 2 {
		t.Errorf("%+v", n)
	}
	for _, m := range modelsOf(3) {
		if got, _ := Extend(m, b.Stack()); m[0] != m[2] && got[0] != got[1] {
			t.Errorf("%v comes out as %v", m, got)
		}
	}
}

// P8.3: a clause that is blocked goes; a model in which it is false is turned at its literal, and nowhere else.
func TestBlocked(t *testing.T) {
	f := api.Formula{Vars: 3, Clauses: []api.Clause{{1, 2}, {-1, -2, 3}, {2, 3}}}
	b := newBase(t, f)
	if b.Weaken(1, lits(1)) != api.OK {
		t.Fatal(b.Entries())
	}
	var n tally
	comesOut(t, b, f.Clauses, &n)
	if n.turned != 1 {
		t.Errorf("%+v", n)
	}
	answers(t, wanted{values(no, no, yes), b.Stack(), values(yes, no, yes), api.OK})
}

// P8.3: a model in which each clause of the stack is true stays as it is, whatever the witnesses are.
func TestStays(t *testing.T) {
	r := rand.New(rand.NewSource(86))
	stayed := 0
	for range 20000 {
		vars := 1 + r.Intn(5)
		stack := drawnStack(r, vars, 4)
		for _, m := range modelsOf(vars) {
			if slices.ContainsFunc(stack, func(w api.Witness) bool { return !clauseTrue(w.Clause, m) }) {
				continue
			}
			stayed += min(1, len(stack))
			if got, e := Extend(m, stack); e != api.OK || !slices.Equal(got, m) {
				t.Fatalf("%v: %v comes out as %v %d", stack, m, got, e)
			}
		}
	}
	if stayed < 20000 {
		t.Error(stayed)
	}
}

// P8.3: stacks made by hand, whose witnesses need not have a literal of their clauses: each is good for what was left ahead of the others behind it.
func TestComesOutByHand(t *testing.T) {
	r := rand.New(rand.NewSource(87))
	var n tally
	for range 4000 {
		vars := 1 + r.Intn(4)
		rest := drawnFormula(r, vars).Clauses
		all := slices.Clone(rest)
		var stack []api.Witness
		for range 20 {
			if len(rest) == 0 {
				break
			}
			at := r.Intn(len(rest))
			w := with(drawnClause(r, vars, 3), rest[at])
			if others := slices.Delete(slices.Clone(rest), at, at+1); isGood(others, w, vars) {
				rest, stack = others, append(stack, w)
				n.weakened++
			}
		}
		for _, m := range modelsOf(vars) {
			if !allTrue(rest, m) {
				continue
			}
			got, e := both(t, m, stack)
			if e != api.OK || !allTrue(all, got) {
				t.Fatalf("%v, left %v, stack %v: %v comes out as %v %d", all, rest, stack, m, got, e)
			}
			n.models++
			if !slices.Equal(got, m) {
				n.turned++
			}
		}
	}
	if n.weakened < 5000 || n.turned < 5000 || n.models-n.turned < 2000 {
		t.Errorf("%+v", n)
	}
}
