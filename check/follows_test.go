package check

import (
	"math/rand"
	"slices"
	"testing"

	"threshing/api"
	"threshing/cnf"
	"threshing/truth"
)

// guarded is a copy of a row with something behind its length, and a call that tells whether both are still the same.
func guarded[T comparable](row []T, behind T) ([]T, func() bool) {
	whole := append(slices.Clone(row), behind, behind)
	kept := slices.Clone(whole)
	return whole[:len(row)], func() bool { return slices.Equal(whole, kept) }
}

// P6.5: what is handed in is only read, what lies behind a row's length included.
func TestOnlyRead(t *testing.T) {
	f := fourClauses()
	var asked []func() bool
	for i, c := range f.Clauses {
		row, ok := guarded(c, 77)
		f.Clauses[i] = row
		asked = append(asked, ok)
	}
	many := append(slices.Clone(f.Clauses), lits(2), lits(1))
	f.Clauses = many[:4]
	steps := []api.Step{}
	for _, s := range []api.Step{
		added(5, lits(1, 2, 1), 1, 2), added(6, lits(3, 1)), added(7, lits(1, -1), 88), gone(7, 7, 6, 5),
		added(8, lits(1), -3, 1, -4, 2), added(9, lits(2, 2), 8, 77), added(10, nil, 8, 3, 4, 4),
	} {
		row, ok := guarded(s.Lits, 0)
		hints, also := guarded(s.Hints, 0)
		steps = append(steps, api.Step{Kind: s.Kind, ID: s.ID, Lits: row, Hints: hints})
		asked = append(asked, ok, also)
	}
	c := made(t, f)
	for _, s := range steps {
		c.Step(s)
	}
	Run(f, steps)
	for i, ok := range asked {
		if !ok() {
			t.Errorf("row %d was changed", i)
		}
	}
	if !slices.Equal(many[4], lits(2)) || !slices.Equal(many[5], lits(1)) {
		t.Error("clauses behind the formula's were changed")
	}
}

// P6.5: nothing that was handed in is kept, and nothing that was answered.
func TestNewMemory(t *testing.T) {
	f := fourClauses()
	shared := lits(1, 2)
	f.Clauses[0] = shared
	f.Clauses = append(f.Clauses, shared[:1], shared)
	c, p := made(t, f), newPlain(f)
	step := added(7, lits(2, 1, 5), 1)
	answers(t, c, step, p.step(step))
	overwrite := func(row api.Clause) {
		for i := range row {
			row[i] = -9
		}
	}
	for _, row := range f.Clauses {
		overwrite(row)
	}
	f.Clauses[3] = nil
	overwrite(step.Lits)
	step.Hints[0] = 3
	same(t, c, p)
	for _, id := range p.ids {
		row, _ := c.Get(id)
		overwrite(row)
		row = append(row, 5)
		overwrite(row)
	}
	live := c.Live()
	for i := range live {
		live[i] = -1
	}
	_ = append(live, 3)
	same(t, c, p)
	answers(t, c, added(8, lits(1), 5), api.OK)
}

// P6.5: two checkers of one formula know nothing of each other.
func TestTwoCheckers(t *testing.T) {
	f := fourClauses()
	a, b := made(t, f), made(t, f)
	answers(t, a, added(5, lits(1), 1, 2), api.OK)
	answers(t, a, gone(0, 1, 2), api.OK)
	same(t, b, newPlain(f))
	answers(t, b, added(5, lits(2), 1, 3), api.OK)
	if got, _ := a.Get(5); !slices.Equal(got, lits(1)) {
		t.Error(got)
	}
}

// standing is the clauses that stand, as a formula of so many variables.
func standing(c *Checker, vars int) api.Formula {
	f := api.Formula{Vars: vars}
	for _, id := range c.Live() {
		row, _ := c.Get(id)
		f.Clauses = append(f.Clauses, row)
	}
	return f
}

func hasModel(t *testing.T, f api.Formula) bool {
	t.Helper()
	_, ok, e := truth.Find(f)
	if e != api.OK {
		t.Fatal(e)
	}
	return ok
}

// P6.6: what follows without groups is true wherever all that stand are; what comes by groups leaves a model, if there is one; so Done is told of formulas alone that have none.
func TestSound(t *testing.T) {
	r := rand.New(rand.NewSource(66))
	done, lost, kept := 0, 0, 0
	for range 3000 {
		vars := 1 + r.Intn(4)
		f := drawnFormula(r, vars)
		sat := hasModel(t, f)
		c, p := made(t, f), newPlain(f)
		for range 15 {
			before := standing(c, vars+1)
			s := p.drawnStep(r, vars+1)
			if p.step(s); c.Step(s) != api.OK {
				continue
			}
			after := standing(c, vars+1)
			if sat && !hasModel(t, after) {
				t.Fatalf("%v has a model, %v has none, by %v", before, after, s)
			}
			if s.Kind == api.SDel {
				continue
			}
			if slices.ContainsFunc(s.Hints, func(h int64) bool { return h < 0 }) {
				lost++
				continue
			}
			if len(s.Hints) > 0 && conflicts(p, s) {
				kept++
				follows, e := truth.Implies(before, s.Lits)
				if e != api.OK || !follows {
					t.Fatalf("%v does not imply %v", before, s.Lits)
				}
			}
		}
		if c.Done() {
			done++
			if sat {
				t.Fatalf("%v has a model, and the checker is Done", f)
			}
		}
	}
	if done < 100 || lost < 300 || kept < 300 {
		t.Error(done, lost, kept)
	}
}

// conflicts tells whether a step's hints come to a conflict.
func conflicts(p *plain, s api.Step) bool {
	a := truths{}
	for _, l := range s.Lits {
		a[-l] = true
	}
	return !plainBoth(s.Lits) && p.plainThrough(a, s.Hints) == api.OK
}

// prover makes a proof of a formula without a model, by going through all values.
type prover struct {
	f     api.Formula
	last  int64
	steps []api.Step
}

// refute answers the id of a clause that is false under the literals that are taken as true.
func (p *prover) refute(taken api.Clause) (int64, bool) {
	for i, c := range p.f.Clauses {
		if !slices.ContainsFunc(c, func(l api.Lit) bool { return !slices.Contains(taken, -l) }) {
			return int64(i) + 1, true
		}
	}
	v := api.Lit(len(taken) + 1)
	if int(v) > p.f.Vars {
		return 0, false
	}
	a, ok := p.refute(append(slices.Clone(taken), v))
	if !ok {
		return 0, false
	}
	b, ok := p.refute(append(slices.Clone(taken), -v))
	if !ok {
		return 0, false
	}
	row := api.Clause{}
	for _, l := range taken {
		row = append(row, -l)
	}
	p.last++
	p.steps = append(p.steps, added(p.last, row, a, b))
	return p.last, true
}

func proofOf(f api.Formula) ([]api.Step, bool) {
	p := prover{f: f, last: int64(len(f.Clauses))}
	_, ok := p.refute(nil)
	return p.steps, ok
}

// holes is the formula of so many pigeons in one hole less.
func holes(pigeons int) api.Formula {
	n := pigeons - 1
	at := func(p, h int) api.Lit { return api.Lit(p*n + h + 1) }
	f := api.Formula{Vars: pigeons * n}
	for p := range pigeons {
		row := api.Clause{}
		for h := range n {
			row = append(row, at(p, h))
		}
		f.Clauses = append(f.Clauses, row)
	}
	for h := range n {
		for p := range pigeons {
			for q := range p {
				f.Clauses = append(f.Clauses, lits(-at(p, h), -at(q, h)))
			}
		}
	}
	return f
}

// checkProof asks that a proof is taken whole, and refused or taken as the plain checker says when a hint has another number.
func checkProof(t *testing.T, r *rand.Rand, f api.Formula, l []api.Step) {
	t.Helper()
	if done, n, e := Run(f, l); !done || n != len(l) || e != api.OK {
		t.Fatalf("%v: %v %d of %d, %d", f, done, n, len(l), e)
	}
	for range min(len(l), 3) {
		i := r.Intn(len(l))
		old := l[i].Hints
		l[i].Hints = slices.Clone(old)
		l[i].Hints[r.Intn(len(old))] = 1 + r.Int63n(l[i].ID+2)
		done, n, e := Run(f, l)
		p := newPlain(f)
		at, want := 0, api.OK
		for at < len(l) && !p.empty {
			if want = p.step(l[at]); want != api.OK {
				break
			}
			at++
		}
		if done != p.empty || n != at || e != want {
			t.Fatalf("%v, %v: %v %d %d, want %v %d %d", f, l, done, n, e, p.empty, at, want)
		}
		l[i].Hints = old
	}
}

// P6.4, P6.6: proofs of formulas that have no model.
func TestProofs(t *testing.T) {
	r := rand.New(rand.NewSource(67))
	proofs := 0
	for range 3000 {
		f := drawnFormula(r, 1+r.Intn(3))
		for range r.Intn(10) {
			f.Clauses = append(f.Clauses, drawnClause(r, f.Vars, 2))
		}
		l, ok := proofOf(f)
		if ok == hasModel(t, f) {
			t.Fatalf("%v: refuted: %v", f, ok)
		}
		if ok {
			proofs++
			checkProof(t, r, f, l)
		}
	}
	if proofs < 500 {
		t.Error(proofs)
	}
	for pigeons := 2; pigeons <= 4; pigeons++ {
		f := holes(pigeons)
		l, _ := proofOf(f)
		checkProof(t, r, f, l)
	}
}

// P6.6: without its last step a proof shows nothing; and one of a formula with a model is never taken.
func TestNoProof(t *testing.T) {
	f := holes(3)
	l, _ := proofOf(f)
	if done, n, e := Run(f, l[:len(l)-1]); done || n != len(l)-1 || e != api.OK {
		t.Error(done, n, e)
	}
	for i := range f.Clauses {
		g := api.Formula{Vars: f.Vars, Clauses: slices.Delete(slices.Clone(f.Clauses), i, i+1)}
		if !hasModel(t, g) {
			continue
		}
		if done, _, _ := Run(g, l); done {
			t.Errorf("without the clause %d it has a model, and the proof is taken", i+1)
		}
	}
}

// Whatever steps are handed in, it answers as the plain checker does.
func FuzzSteps(f *testing.F) {
	f.Add([]byte{1, 2, 0, 1, 254, 0, 255, 2, 0, 255, 254, 0}, []byte{1, 5, 1, 0, 1, 2, 0, 1, 6, 0, 5, 3, 4, 0, 2, 0, 1, 0})
	f.Add([]byte{255, 2, 0, 0}, []byte{1, 3, 1, 254, 0, 255, 0, 2, 3, 3, 1, 0})
	f.Fuzz(func(t *testing.T, formula, proof []byte) {
		g := api.Formula{Vars: 4, Clauses: []api.Clause{}}
		row := api.Clause{}
		for _, b := range formula {
			if b == 0 {
				g.Clauses = append(g.Clauses, row)
				row = api.Clause{}
				continue
			}
			row = append(row, api.Lit(int8(b)%5))
		}
		if cnf.Right(g) != api.OK {
			return
		}
		c, p := made(t, g), newPlain(g)
		for len(proof) > 2 {
			s := api.Step{Kind: proof[0], ID: int64(int8(proof[1]))}
			proof = proof[2:]
			for len(proof) > 0 && s.Kind == api.SAdd && proof[0] != 0 {
				s.Lits = append(s.Lits, api.Lit(int8(proof[0])))
				proof = proof[1:]
			}
			if len(proof) > 0 && s.Kind == api.SAdd {
				proof = proof[1:]
			}
			for len(proof) > 0 && proof[0] != 0 {
				s.Hints = append(s.Hints, int64(int8(proof[0])))
				proof = proof[1:]
			}
			if len(proof) > 0 {
				proof = proof[1:]
			}
			answers(t, c, s, p.step(s))
			same(t, c, p)
		}
	})
}
