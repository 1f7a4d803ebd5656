package base

import (
	"math"
	"slices"
	"testing"

	"threshing/api"
)

// plain is the chapter's words, said plainly: everything in rows that are gone through, all of it written down anew.
type plain struct {
	vars  int
	last  int64
	live  []api.Entry
	steps []api.Step
	stack []api.Witness
	rules []api.Rule
}

func newPlain(f api.Formula) *plain {
	p := &plain{vars: f.Vars}
	for _, c := range f.Clauses {
		p.last++
		p.live = append(p.live, api.Entry{ID: p.last, Lits: slices.Clone(c)})
	}
	return p
}

func (p *plain) cloned() *plain {
	return &plain{p.vars, p.last, slices.Clone(p.live), slices.Clone(p.steps), slices.Clone(p.stack), slices.Clone(p.rules)}
}

func (p *plain) at(id int64) int {
	return slices.IndexFunc(p.live, func(c api.Entry) bool { return c.ID == id })
}

func (p *plain) right(c api.Clause) bool {
	for _, l := range c {
		if l == 0 || int64(l) > int64(p.vars) || int64(l) < -int64(p.vars) {
			return false
		}
	}
	return true
}

func plainBoth(c api.Clause) bool {
	return slices.ContainsFunc(c, func(l api.Lit) bool { return slices.Contains(c, -l) })
}

// follows knows what is false alone: what is true is what is the negation of that.
func (p *plain) follows(c api.Clause, hints []int64) api.Errno {
	if plainBoth(c) {
		return api.OK
	}
	isFalse := map[api.Lit]bool{}
	for _, l := range c {
		isFalse[l] = true
	}
	for _, h := range hints {
		i := p.at(h)
		if i < 0 {
			return api.ErrHint
		}
		rest := map[api.Lit]bool{}
		for _, l := range p.live[i].Lits {
			if !isFalse[l] {
				rest[l] = true
			}
		}
		if len(rest) == 0 {
			return api.OK
		}
		for l := range rest {
			if len(rest) > 1 || isFalse[-l] {
				return api.ErrHint
			}
			isFalse[-l] = true
		}
	}
	return api.ErrProof
}

func (p *plain) full() bool { return len(p.steps) >= 4194304 }

func (p *plain) add(c api.Clause, hints []int64, red bool) (int64, api.Errno) {
	if p.full() {
		return 0, api.ErrLimit
	}
	if !p.right(c) {
		return 0, api.ErrLit
	}
	if e := p.follows(c, hints); e != api.OK {
		return 0, e
	}
	c, hints = slices.Clone(c), slices.Clone(hints)
	p.last++
	p.live = append(p.live, api.Entry{ID: p.last, Lits: c, Red: red})
	p.steps = append(p.steps, api.Step{Kind: api.SAdd, ID: p.last, Lits: c, Hints: hints})
	p.rules = append(p.rules, api.Rule{Kind: api.RAdd, ID: p.last, Red: red, Lits: c, Hints: hints})
	return p.last, api.OK
}

func (p *plain) keep(id int64) api.Errno {
	i := p.at(id)
	if i < 0 {
		return api.ErrNone
	}
	p.live[i].Red = false
	p.rules = append(p.rules, api.Rule{Kind: api.RKeep, ID: id})
	return api.OK
}

// goes takes the clause of that place away, by that rule.
func (p *plain) goes(i int, r api.Rule) {
	p.live = slices.Delete(p.live, i, i+1)
	p.steps = append(p.steps, api.Step{Kind: api.SDel, ID: p.last, Hints: []int64{r.ID}})
	p.rules = append(p.rules, r)
}

func (p *plain) delete(id int64) api.Errno {
	i := p.at(id)
	switch {
	case i < 0:
		return api.ErrNone
	case !p.live[i].Red:
		return api.ErrState
	case p.full():
		return api.ErrLimit
	}
	p.goes(i, api.Rule{Kind: api.RDelete, ID: id})
	return api.OK
}

func (p *plain) drop(id, by int64) api.Errno {
	i, k := p.at(id), p.at(by)
	if i < 0 || by != 0 && k < 0 {
		return api.ErrNone
	}
	if by == id {
		return api.ErrArg
	}
	if by == 0 && !plainBoth(p.live[i].Lits) {
		return api.ErrArg
	}
	if by != 0 {
		for _, l := range p.live[k].Lits {
			if !slices.Contains(p.live[i].Lits, l) {
				return api.ErrArg
			}
		}
	}
	if p.full() {
		return api.ErrLimit
	}
	if by != 0 && !p.live[i].Red {
		p.live[k].Red = false
	}
	p.goes(i, api.Rule{Kind: api.RDrop, ID: id, By: by})
	return api.OK
}

func (p *plain) weaken(id int64, w api.Clause) api.Errno {
	i := p.at(id)
	switch {
	case i < 0:
		return api.ErrNone
	case p.live[i].Red:
		return api.ErrState
	case !p.right(w):
		return api.ErrLit
	case len(w) == 0 || !slices.Contains(p.live[i].Lits, w[0]) || plainBoth(w):
		return api.ErrArg
	case p.full():
		return api.ErrLimit
	}
	w = slices.Clone(w)
	p.stack = append(p.stack, api.Witness{Lits: w, Clause: p.live[i].Lits})
	p.goes(i, api.Rule{Kind: api.RWeaken, ID: id, Lits: w})
	return api.OK
}

func (p *plain) occurs(l api.Lit) []int64 {
	var ids []int64
	for _, c := range p.live {
		if slices.Contains(c.Lits, l) {
			ids = append(ids, c.ID)
		}
	}
	return ids
}

func (p *plain) empty() (int64, bool) {
	for _, c := range p.live {
		if len(c.Lits) == 0 {
			return c.ID, true
		}
	}
	return 0, false
}

func sameEntry(a, b api.Entry) bool {
	return a.ID == b.ID && a.Red == b.Red && slices.Equal(a.Lits, b.Lits)
}

func sameStep(a, b api.Step) bool {
	return a.Kind == b.Kind && a.ID == b.ID && slices.Equal(a.Lits, b.Lits) && slices.Equal(a.Hints, b.Hints)
}

func sameWitness(a, b api.Witness) bool {
	return slices.Equal(a.Lits, b.Lits) && slices.Equal(a.Clause, b.Clause)
}

func sameRule(a, b api.Rule) bool {
	return a.Kind == b.Kind && a.ID == b.ID && a.By == b.By && a.Red == b.Red && slices.Equal(a.Lits, b.Lits) && slices.Equal(a.Hints, b.Hints)
}

// same asks that a base tells what the plain one has.
func same(t *testing.T, b *Base, p *plain) {
	t.Helper()
	if b.Vars() != p.vars || b.Last() != p.last {
		t.Fatalf("Vars %d, Last %d, want %d, %d", b.Vars(), b.Last(), p.vars, p.last)
	}
	if got := b.Entries(); !slices.EqualFunc(got, p.live, sameEntry) {
		t.Fatalf("Entries: %v, want %v", got, p.live)
	}
	if got := b.Steps(); !slices.EqualFunc(got, p.steps, sameStep) {
		t.Fatalf("Steps: %v, want %v", got, p.steps)
	}
	if got := b.Stack(); !slices.EqualFunc(got, p.stack, sameWitness) {
		t.Fatalf("Stack: %v, want %v", got, p.stack)
	}
	if got := b.Rules(); !slices.EqualFunc(got, p.rules, sameRule) {
		t.Fatalf("Rules: %v, want %v", got, p.rules)
	}
	id, ok := b.Empty()
	if want, is := p.empty(); id != want || ok != is {
		t.Fatalf("Empty: %d %t, want %d %t", id, ok, want, is)
	}
	sameGet(t, b, p)
	sameOccurs(t, b, p)
}

func sameGet(t *testing.T, b *Base, p *plain) {
	t.Helper()
	ids := []int64{math.MinInt64, -api.MaxID, -1, p.last + 1, api.MaxID, math.MaxInt64}
	for id := range p.last + 1 {
		ids = append(ids, id)
	}
	for _, id := range ids {
		want, i := api.Entry{}, p.at(id)
		if i >= 0 {
			want = p.live[i]
		}
		if got, ok := b.Get(id); ok != (i >= 0) || !sameEntry(got, want) {
			t.Fatalf("Get(%d): %v %t, want %v", id, got, ok, want)
		}
	}
}

func sameOccurs(t *testing.T, b *Base, p *plain) {
	t.Helper()
	lits := []api.Lit{0, math.MinInt32, math.MaxInt32, -math.MaxInt32}
	for v := range min(p.vars+1, 20) {
		lits = append(lits, api.Lit(v+1), api.Lit(-v-1))
	}
	for _, l := range lits {
		if got, want := b.Occurs(l), p.occurs(l); !slices.Equal(got, want) {
			t.Fatalf("Occurs(%d): %v, want %v, of %v", l, got, want, p.live)
		}
	}
}

// call is one that may change a base, by the kind of its rule.
type call struct {
	kind  uint8
	id    int64
	by    int64
	lits  api.Clause
	hints []int64
	red   bool
}

func (c call) onBase(b *Base) (int64, api.Errno) {
	switch c.kind {
	case api.RAdd:
		return b.Add(c.lits, c.hints, c.red)
	case api.RKeep:
		return 0, b.Keep(c.id)
	case api.RDelete:
		return 0, b.Delete(c.id)
	case api.RDrop:
		return 0, b.Drop(c.id, c.by)
	}
	return 0, b.Weaken(c.id, c.lits)
}

func (c call) onPlain(p *plain) (int64, api.Errno) {
	switch c.kind {
	case api.RAdd:
		return p.add(c.lits, c.hints, c.red)
	case api.RKeep:
		return 0, p.keep(c.id)
	case api.RDelete:
		return 0, p.delete(c.id)
	case api.RDrop:
		return 0, p.drop(c.id, c.by)
	}
	return 0, p.weaken(c.id, c.lits)
}

// both does a call on a base and on its plain one, which must answer the same.
func both(t *testing.T, b *Base, p *plain, c call) api.Errno {
	t.Helper()
	before := p.cloned()
	id, e := c.onBase(b)
	if want, we := c.onPlain(p); id != want || e != we {
		t.Fatalf("%v on %v: %d %d, want %d %d", c, before.live, id, e, want, we)
	}
	return e
}

func addCall(red bool, c api.Clause, hints ...int64) call {
	return call{kind: api.RAdd, red: red, lits: c, hints: hints}
}

func keepCall(id int64) call { return call{kind: api.RKeep, id: id} }

func deleteCall(id int64) call { return call{kind: api.RDelete, id: id} }

func dropCall(id, by int64) call { return call{kind: api.RDrop, id: id, by: by} }

func weakenCall(id int64, w ...api.Lit) call { return call{kind: api.RWeaken, id: id, lits: w} }
