package search

import (
	"fmt"
	"math/rand"
	"slices"
	"testing"

	"threshing/api"
	"threshing/base"
	"threshing/check"
	"threshing/cnf"
	"threshing/truth"
)

func lits(l ...api.Lit) api.Clause { return l }

func of(vars int, clauses ...api.Clause) api.Formula {
	return api.Formula{Vars: vars, Clauses: clauses}
}

// square has each clause of two variables: no model.
func square() api.Formula { return of(2, lits(1, 2), lits(-1, 2), lits(1, -2), lits(-1, -2)) }

// holes is so many pigeons in one hole less.
func holes(n int) api.Formula {
	f := api.Formula{Vars: n * (n - 1)}
	at := func(p, h int) api.Lit { return api.Lit(p*(n-1) + h + 1) }
	for p := range n {
		var c api.Clause
		for h := range n - 1 {
			c = append(c, at(p, h))
			for q := range p {
				f.Clauses = append(f.Clauses, lits(-at(p, h), -at(q, h)))
			}
		}
		f.Clauses = append(f.Clauses, c)
	}
	return f
}

// drawn is a formula of clauses of up to so many literals, some of which may be of one variable.
func drawn(r *rand.Rand, vars, clauses, length int) api.Formula {
	f := api.Formula{Vars: vars}
	for range clauses {
		n := length
		if r.Intn(4) == 0 {
			n = 1 + r.Intn(length)
		}
		var c api.Clause
		for range n {
			l := api.Lit(1 + r.Intn(vars))
			if r.Intn(2) == 0 {
				l = -l
			}
			c = append(c, l)
		}
		f.Clauses = append(f.Clauses, c)
	}
	return f
}

// hard is a formula of so many clauses of three literals each, of three variables.
func hard(r *rand.Rand, vars, clauses int) api.Formula {
	f := api.Formula{Vars: vars}
	for range clauses {
		var c api.Clause
		for _, v := range r.Perm(vars)[:3] {
			l := api.Lit(v + 1)
			if r.Intn(2) == 0 {
				l = -l
			}
			c = append(c, l)
		}
		f.Clauses = append(f.Clauses, c)
	}
	return f
}

func made(t *testing.T, f api.Formula) *base.Base {
	t.Helper()
	b, e := base.New(f)
	if e != api.OK {
		t.Fatal(e)
	}
	return b
}

// must fails unless a call of a base was done.
func must(t *testing.T, e api.Errno) {
	t.Helper()
	if e != api.OK {
		t.Fatalf("a base answered %d", e)
	}
}

// small has all things that come by numbers of conflicts come often.
func small(o Options) Options {
	o.Restart, o.Reduce, o.Rephase = 1, 1, 1
	o.Glue, o.Part = 0, 100
	o.Margin, o.Fast, o.Slow = 100, 1, 4
	return o
}

// variants are options of many kinds.
func variants() []Options {
	var l []Options
	for mode := range 3 {
		for n := range 8 {
			o := Default()
			o.Mode = mode
			o.Minimise, o.Shrink = n&1 == 0, n&2 == 0
			if n&4 != 0 {
				o = small(o)
				o.Seed, o.Phase = uint64(n*77), n&1 == 0
			}
			l = append(l, o)
		}
	}
	return l
}

// told is all of a base, told.
func told(b *base.Base) string {
	return fmt.Sprint(b.Vars(), b.Last(), b.Entries(), b.Steps(), b.Stack(), b.Rules())
}

// clauses is those of a base, as a formula.
func clauses(b *base.Base) api.Formula {
	f := api.Formula{Vars: b.Vars()}
	for _, c := range b.Entries() {
		f.Clauses = append(f.Clauses, c.Lits)
	}
	return f
}

// searched is what a search finds, of which all is asked that is promised of any: of the result, of the base, and that another search finds the same.
func searched(t *testing.T, b *base.Base, o Options) Result {
	t.Helper()
	before, twin := b.Copy(), b.Copy()
	r, e := Run(b, o)
	if e != api.OK {
		t.Fatalf("error %d of %v, %+v", e, clauses(before), o)
	}
	again, e := Run(twin, o)
	if e != api.OK || fmt.Sprint(again) != fmt.Sprint(r) || told(twin) != told(b) {
		t.Errorf("two searches of %v, %+v are unlike: %v, %v", clauses(before), o, r, again)
	}
	rightResult(t, before, b, o, r)
	rightBase(t, before, b)
	if b.Vars() <= 8 {
		follows(t, before, b, r)
	}
	return r
}

// rightResult asks P19.2.
func rightResult(t *testing.T, before, b *base.Base, o Options, r Result) {
	t.Helper()
	wrong := func(why string) { t.Errorf("%s: %v, %+v: %+v", why, clauses(before), o, r) }
	if min(r.Conflicts, r.Decisions, r.Restarts, r.Reduced, r.Rephased, r.Ticks) < 0 {
		wrong("a count below 0")
	}
	if r.Restarts > r.Conflicts || r.Rephased > r.Conflicts || r.Reduced > r.Conflicts {
		wrong("more of something than conflicts")
	}
	if r.Verdict != api.Sat && r.Model != nil {
		wrong("a model beside another verdict")
	}
	switch r.Verdict {
	case api.Sat:
		if len(r.Model) != b.Vars() || !cnf.Holds(clauses(before), r.Model) {
			wrong("no model")
		}
	case api.Unsat:
		if _, there := b.Empty(); !there {
			wrong("no empty clause")
		}
	case api.Unknown:
		if !(o.Conflicts > 0 && r.Conflicts >= o.Conflicts) && !(o.Ticks > 0 && r.Ticks >= o.Ticks) {
			wrong("no budget was used up")
		}
	default:
		wrong("no verdict")
	}
}

// rightBase asks P19.3: what was done since is Add of redundant clauses, units and empty ones, and Delete of redundant ones; so what was not redundant is live.
func rightBase(t *testing.T, before, b *base.Base) {
	t.Helper()
	was, is := before.Rules(), b.Rules()
	if len(is) < len(was) || fmt.Sprint(is[:len(was)]) != fmt.Sprint(was) {
		t.Fatalf("rules %v, were %v", is, was)
	}
	for _, r := range is[len(was):] {
		switch r.Kind {
		case api.RAdd:
			if r.Red != (len(r.Lits) > 1) {
				t.Errorf("added: %v", r)
			}
		case api.RDelete:
		default:
			t.Errorf("done: %v", r)
		}
	}
	for _, c := range before.Entries() {
		if now, live := b.Get(c.ID); !c.Red && (!live || now.Red || !slices.Equal(now.Lits, c.Lits)) {
			t.Errorf("%v is %v, %t", c, now, live)
		}
	}
	if fmt.Sprint(before.Stack()) != fmt.Sprint(b.Stack()) {
		t.Errorf("stack %v, was %v", b.Stack(), before.Stack())
	}
}

// follows asks of few variables, by all models: that what was added follows, and P19.5.
func follows(t *testing.T, before, b *base.Base, r Result) {
	t.Helper()
	f := clauses(before)
	for _, x := range b.Rules()[len(before.Rules()):] {
		if yes, e := truth.Implies(f, x.Lits); x.Kind == api.RAdd && (!yes || e != api.OK) {
			t.Errorf("%v: added %v", f, x)
		}
	}
	_, has, e := truth.Find(f)
	if e != api.OK {
		t.Fatal(e)
	}
	if r.Verdict != api.Unknown && has != (r.Verdict == api.Sat) {
		t.Errorf("%v: verdict %d, and it has a model: %t", f, r.Verdict, has)
	}
}

// proved is what a search of a formula finds, whose steps are a proof for the checker, with the empty clause just if it is so found.
func proved(t *testing.T, f api.Formula, o Options) Result {
	t.Helper()
	b := made(t, f)
	r := searched(t, b, o)
	done, n, e := check.Run(f, b.Steps())
	if e != api.OK || done != (r.Verdict == api.Unsat) {
		t.Errorf("%v, %+v: verdict %d, and of the proof: %t, step %d, error %d", f, o, r.Verdict, done, n, e)
	}
	return r
}

// decided fails, if a search without budgets finds nothing.
func decided(t *testing.T, f api.Formula, o Options) uint8 {
	t.Helper()
	r := proved(t, f, o)
	if r.Verdict != api.Sat && r.Verdict != api.Unsat {
		t.Errorf("%v, %+v: verdict %d", f, o, r.Verdict)
	}
	return r.Verdict
}
