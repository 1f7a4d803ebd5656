package base

import (
	"math/rand"
	"slices"
	"testing"

	"threshing/api"
	"threshing/check"
	"threshing/cnf"
	"threshing/truth"
)

// drawnClause is a clause with few literals, some of them twice, seldom with a negation.
func drawnClause(r *rand.Rand, vars, most int) api.Clause {
	c := api.Clause{}
	for range r.Intn(most + 1) {
		l := api.Lit(r.Intn(vars) + 1)
		if r.Intn(2) == 0 {
			l = -l
		}
		if slices.Contains(c, -l) && r.Intn(4) > 0 {
			continue
		}
		c = append(c, l)
	}
	return c
}

func drawnFormula(r *rand.Rand, vars int) api.Formula {
	f := api.Formula{Vars: vars}
	for range r.Intn(10) {
		c := append(drawnClause(r, vars, 2), drawnClause(r, vars, 1)...)
		if len(c) == 0 && r.Intn(8) > 0 {
			c = lits(1)
		}
		f.Clauses = append(f.Clauses, c)
	}
	return f
}

// found is hints, in a drawn order, till a clause all of whose literals are false is come to, or none is unit.
func (p *plain) found(r *rand.Rand, c api.Clause) []int64 {
	var hints []int64
	for again := true; again; {
		again = false
		for _, i := range r.Perm(len(p.live)) {
			longer := append(slices.Clone(hints), p.live[i].ID)
			switch p.follows(c, longer) {
			case api.OK:
				return longer
			case api.ErrProof:
				hints, again = longer, true
			}
		}
	}
	return hints
}

// drawnAdd is a clause with hints by which it may well follow, or spoilt ones.
func (p *plain) drawnAdd(r *rand.Rand, vars int) call {
	c := drawnClause(r, vars, 3)
	hints := p.found(r, c)
	if r.Intn(5) == 0 {
		hints = append(hints, 1+r.Int63n(p.last+2))
	}
	if len(hints) > 0 && r.Intn(4) == 0 {
		i := r.Intn(len(hints))
		switch r.Intn(4) {
		case 0:
			hints[i] = 1 + r.Int63n(p.last+2)
		case 1:
			hints = slices.Delete(hints, i, i+1)
		case 2:
			hints = slices.Insert(hints, i, hints[r.Intn(len(hints))])
		case 3:
			k := r.Intn(len(hints))
			hints[i], hints[k] = hints[k], hints[i]
		}
	}
	return addCall(r.Intn(2) == 0, c, hints...)
}

// drawnID is a live clause's id, most often.
func (p *plain) drawnID(r *rand.Rand) int64 {
	if len(p.live) == 0 || r.Intn(10) == 0 {
		return r.Int63n(p.last + 2)
	}
	return p.live[r.Intn(len(p.live))].ID
}

// drawnDrop is of a clause that may be dropped, if such a one is soon found.
func (p *plain) drawnDrop(r *rand.Rand) call {
	for range 8 {
		c := dropCall(p.drawnID(r), p.drawnID(r))
		if r.Intn(5) == 0 {
			c.by = 0
		}
		if p.cloned().drop(c.id, c.by) == api.OK {
			return c
		}
	}
	return dropCall(p.drawnID(r), p.drawnID(r))
}

func (p *plain) drawnWeaken(r *rand.Rand, vars int) call {
	id := p.drawnID(r)
	w := drawnClause(r, vars, 2)
	if i := p.at(id); i >= 0 && len(p.live[i].Lits) > 0 {
		w = append(lits(p.live[i].Lits[r.Intn(len(p.live[i].Lits))]), w...)
	}
	return weakenCall(id, w...)
}

// drawn is any call; a variable that is not there is seldom named.
func (p *plain) drawn(r *rand.Rand, weaken bool) call {
	vars := p.vars
	if r.Intn(15) == 0 {
		vars++
	}
	switch n := r.Intn(12); {
	case n == 0:
		return keepCall(p.drawnID(r))
	case n < 3:
		return deleteCall(p.drawnID(r))
	case n < 5:
		return p.drawnDrop(r)
	case n < 7 && weaken:
		return p.drawnWeaken(r, vars)
	}
	return p.drawnAdd(r, vars)
}

// pair is a base, and the plain one beside it.
type pair struct {
	*Base
	*plain
}

// P7.1 to P7.7: many drawn rows of calls on a base and its copies, held against the plain one call by call, also behind errors.
func TestDrawn(t *testing.T) {
	r := rand.New(rand.NewSource(71))
	type kindOf struct {
		kind uint8
		e    api.Errno
	}
	told := map[kindOf]int{}
	for range 1500 {
		f := drawnFormula(r, 1+r.Intn(4))
		all := []pair{{made(t, f), newPlain(f)}}
		for range 30 {
			x := all[r.Intn(len(all))]
			if r.Intn(12) == 0 {
				all = append(all, pair{x.Base.Copy(), x.plain.cloned()})
			}
			c := x.plain.drawn(r, true)
			told[kindOf{c.kind, both(t, x.Base, x.plain, c)}]++
			same(t, x.Base, x.plain)
		}
		for _, x := range all {
			same(t, x.Base, x.plain)
		}
	}
	for _, x := range []kindOf{
		{api.RAdd, api.OK}, {api.RAdd, api.ErrLit}, {api.RAdd, api.ErrHint}, {api.RAdd, api.ErrProof},
		{api.RKeep, api.OK}, {api.RKeep, api.ErrNone}, {api.RDelete, api.OK}, {api.RDelete, api.ErrNone}, {api.RDelete, api.ErrState},
		{api.RDrop, api.OK}, {api.RDrop, api.ErrNone}, {api.RDrop, api.ErrArg},
		{api.RWeaken, api.OK}, {api.RWeaken, api.ErrNone}, {api.RWeaken, api.ErrState}, {api.RWeaken, api.ErrLit}, {api.RWeaken, api.ErrArg},
	} {
		if told[x] < 50 {
			t.Errorf("%v was told %d times", x, told[x])
		}
	}
}

// standing is the live clauses, as a formula.
func standing(b *Base) api.Formula {
	f := api.Formula{Vars: b.Vars()}
	for _, c := range b.Entries() {
		f.Clauses = append(f.Clauses, c.Lits)
	}
	return f
}

func hasModel(t *testing.T, f api.Formula) bool {
	t.Helper()
	_, ok, e := truth.Find(f)
	if e != api.OK {
		t.Fatal(e)
	}
	return ok
}

// taken asks that the checker takes all steps of a base, one by one, and that the live clauses stand behind them.
func taken(t *testing.T, f api.Formula, b *Base) {
	t.Helper()
	c, e := check.New(f)
	if e != api.OK {
		t.Fatal(e)
	}
	for i, s := range b.Steps() {
		if e := c.Step(s); e != api.OK {
			t.Fatalf("%v: step %d, %v: %d", f, i, s, e)
		}
	}
	entries := b.Entries()
	if len(c.Live()) != len(entries) {
		t.Fatalf("%v stand, and %v are live", c.Live(), entries)
	}
	for _, x := range entries {
		if got, ok := c.Get(x.ID); !ok || !slices.Equal(got, x.Lits) {
			t.Fatalf("%v %t stands, and %v is live", got, ok, x)
		}
	}
	if _, empty := b.Empty(); empty && !c.Done() {
		t.Fatal("a live empty clause, and the checker is not Done")
	}
}

// P7.8: what is added is true in every model of all clauses that were live then; the checker takes the steps; with an empty clause there is no model, if nothing was weakened.
func TestFollows(t *testing.T) {
	r := rand.New(rand.NewSource(78))
	added, empty, weakened := 0, 0, 0
	for n := range 2500 {
		f := drawnFormula(r, 1+r.Intn(4))
		for range r.Intn(8) {
			f.Clauses = append(f.Clauses, append(drawnClause(r, f.Vars, 2), 1))
		}
		b, p := made(t, f), newPlain(f)
		for range 25 {
			before := standing(b)
			c := p.drawn(r, n%2 == 0)
			if both(t, b, p, c) != api.OK || c.kind != api.RAdd {
				continue
			}
			added++
			if follows, e := truth.Implies(before, c.lits); e != api.OK || !follows {
				t.Fatalf("%v does not imply %v", before, c.lits)
			}
		}
		taken(t, f, b)
		weakened += min(1, len(b.Stack()))
		if _, ok := b.Empty(); !ok || len(b.Stack()) > 0 {
			continue
		}
		empty++
		if hasModel(t, f) {
			t.Fatalf("%v has a model, and the base an empty clause", f)
		}
		if done, _, e := check.Run(f, b.Steps()); !done || e != api.OK {
			t.Fatalf("%v: Run: %t %d", f, done, e)
		}
	}
	if added < 5000 || empty < 200 || weakened < 300 {
		t.Error(added, empty, weakened)
	}
}

// refute adds, by going through all values, a clause that is false under the literals that are taken as true: its id.
func refute(t *testing.T, b *Base, f api.Formula, taken api.Clause) (int64, bool) {
	t.Helper()
	denied := make(api.Clause, len(taken))
	for i, l := range taken {
		denied[i] = -l
	}
	for i, c := range f.Clauses {
		if cnf.Subsumes(c, denied) {
			return int64(i) + 1, true
		}
	}
	v := api.Lit(len(taken) + 1)
	if int(v) > f.Vars {
		return 0, false
	}
	x, ok := refute(t, b, f, append(slices.Clone(taken), v))
	if !ok {
		return 0, false
	}
	y, ok := refute(t, b, f, append(slices.Clone(taken), -v))
	if !ok {
		return 0, false
	}
	id, e := b.Add(denied, []int64{x, y}, len(taken) > 0)
	if e != api.OK {
		t.Fatalf("%v by %d %d: %d", denied, x, y, e)
	}
	return id, true
}

// holes is the formula of so many pigeons in one hole less.
func holes(pigeons int) api.Formula {
	n := pigeons - 1
	at := func(p, h int) api.Lit { return api.Lit(p*n + h + 1) }
	f := api.Formula{Vars: pigeons * n}
	for p := range pigeons {
		row := api.Clause{}
		for h := range n {
			row = append(row, at(p, h))
			for q := range p {
				f.Clauses = append(f.Clauses, lits(-at(p, h), -at(q, h)))
			}
		}
		f.Clauses = append(f.Clauses, row)
	}
	return f
}

// P7.8: whole proofs, of pigeons and of drawn formulas: the checker takes them, also when what is redundant goes behind it.
func TestRefute(t *testing.T) {
	all := []api.Formula{square(), holes(2), holes(3), holes(4)}
	r := rand.New(rand.NewSource(79))
	for range 1000 {
		f := drawnFormula(r, 1+r.Intn(3))
		for range r.Intn(10) {
			f.Clauses = append(f.Clauses, append(drawnClause(r, f.Vars, 1), -1))
		}
		all = append(all, f)
	}
	proofs := 0
	for _, f := range all {
		b := made(t, f)
		_, ok := refute(t, b, f, nil)
		if f.Vars <= 4 && ok == hasModel(t, f) {
			t.Fatalf("%v: refuted: %t", f, ok)
		}
		if _, empty := b.Empty(); empty != ok {
			t.Fatalf("%v: refuted: %t, empty: %t", f, ok, empty)
		}
		for _, c := range b.Entries() {
			if c.Red && b.Delete(c.ID) != api.OK {
				t.Fatalf("Delete(%d)", c.ID)
			}
		}
		taken(t, f, b)
		if ok {
			proofs++
		}
	}
	if proofs < 150 {
		t.Error(proofs)
	}
}

// Whatever calls are done, a base answers as the plain one does.
func FuzzCalls(f *testing.F) {
	f.Add([]byte{1, 2, 0, 255, 2, 0, 1, 254, 0, 255, 254, 0}, []byte{1, 1, 2, 0, 1, 2, 0, 4, 1, 5, 5, 3, 254, 0, 1, 0, 0, 5, 3, 4, 0, 3, 6, 2, 5})
	f.Add([]byte{1, 1, 0, 0, 255, 1, 0}, []byte{4, 3, 0, 4, 1, 2, 5, 2, 1, 0, 6, 1, 1, 1, 0, 1, 0})
	f.Fuzz(func(t *testing.T, formula, script []byte) {
		g := api.Formula{Vars: 4}
		row := api.Clause{}
		for _, b := range formula {
			if b == 0 {
				g.Clauses = append(g.Clauses, row)
				row = api.Clause{}
				continue
			}
			row = append(row, api.Lit(int8(b)%5))
		}
		if cnf.Right(g) != api.OK {
			return
		}
		b, p := made(t, g), newPlain(g)
		other, at := b.Copy(), p.cloned()
		next := func() byte {
			if len(script) == 0 {
				return 0
			}
			x := script[0]
			script = script[1:]
			return x
		}
		rowOf := func() []int8 {
			var l []int8
			for x := next(); x != 0; x = next() {
				l = append(l, int8(x))
			}
			return l
		}
		for len(script) > 0 {
			c := call{kind: next() % 7}
			if c.kind == 6 {
				b, p, other, at = other, at, b.Copy(), p.cloned()
				continue
			}
			if c.kind == api.RAdd {
				c.red = next()%2 == 1
			} else {
				c.id = int64(int8(next()))
			}
			switch c.kind {
			case api.RDrop:
				c.by = int64(int8(next()))
			case api.RAdd, api.RWeaken:
				for _, l := range rowOf() {
					c.lits = append(c.lits, api.Lit(l))
				}
			}
			if c.kind == api.RAdd {
				for _, h := range rowOf() {
					c.hints = append(c.hints, int64(h))
				}
			}
			both(t, b, p, c)
			same(t, b, p)
		}
		same(t, other, at)
	})
}
