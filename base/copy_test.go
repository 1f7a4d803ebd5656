package base

import (
	"slices"
	"testing"

	"threshing/api"
)

// someCalls is calls of every kind, each of which answers OK, one behind the other, on a base of someFormula.
func someCalls() []call {
	return []call{
		addCall(true, lits(2, 5), 1, 2), addCall(false, lits(2), 1, 2), addCall(true, lits(3, -3, 3), 77), addCall(true, lits(2, 4), 8),
		keepCall(7), dropCall(1, 8), deleteCall(9), dropCall(5, 0), weakenCall(3, 1, 4, -3), weakenCall(4, -2, -1), addCall(true, nil, 6), keepCall(2),
	}
}

func someFormula() api.Formula {
	return of(lits(1, 2), lits(-1, 2), lits(1, -2), lits(-1, -2), lits(6, 1, -6), nil)
}

// filled is a base to which all these calls were done.
func filled(t *testing.T) (*Base, *plain) {
	t.Helper()
	b, p := made(t, someFormula()), newPlain(someFormula())
	for _, c := range someCalls() {
		if e := both(t, b, p, c); e != api.OK {
			t.Fatalf("%v: %d", c, e)
		}
	}
	same(t, b, p)
	return b, p
}

// P7.6: a rule for each call that answered OK, and none for another.
func TestRules(t *testing.T) {
	b, _ := filled(t)
	for _, c := range []call{addCall(true, nil), addCall(true, lits(0)), addCall(true, lits(9), 99), keepCall(1), deleteCall(2), dropCall(2, 2), dropCall(2, 99), weakenCall(2), weakenCall(2, 0)} {
		if _, e := c.onBase(b); e == api.OK {
			t.Errorf("%v: OK", c)
		}
	}
	want := []api.Rule{
		{Kind: api.RAdd, ID: 7, Red: true, Lits: lits(2, 5), Hints: []int64{1, 2}},
		{Kind: api.RAdd, ID: 8, Lits: lits(2), Hints: []int64{1, 2}},
		{Kind: api.RAdd, ID: 9, Red: true, Lits: lits(3, -3, 3), Hints: []int64{77}},
		{Kind: api.RAdd, ID: 10, Red: true, Lits: lits(2, 4), Hints: []int64{8}},
		{Kind: api.RKeep, ID: 7},
		{Kind: api.RDrop, ID: 1, By: 8},
		{Kind: api.RDelete, ID: 9},
		{Kind: api.RDrop, ID: 5},
		{Kind: api.RWeaken, ID: 3, Lits: lits(1, 4, -3)},
		{Kind: api.RWeaken, ID: 4, Lits: lits(-2, -1)},
		{Kind: api.RAdd, ID: 11, Red: true, Hints: []int64{6}},
		{Kind: api.RKeep, ID: 2},
	}
	if got := b.Rules(); !slices.EqualFunc(got, want, sameRule) {
		t.Errorf("Rules: %v", got)
	}
	steps := []api.Step{
		{Kind: api.SAdd, ID: 7, Lits: lits(2, 5), Hints: []int64{1, 2}},
		{Kind: api.SAdd, ID: 8, Lits: lits(2), Hints: []int64{1, 2}},
		{Kind: api.SAdd, ID: 9, Lits: lits(3, -3, 3), Hints: []int64{77}},
		{Kind: api.SAdd, ID: 10, Lits: lits(2, 4), Hints: []int64{8}},
		{Kind: api.SDel, ID: 10, Hints: []int64{1}},
		{Kind: api.SDel, ID: 10, Hints: []int64{9}},
		{Kind: api.SDel, ID: 10, Hints: []int64{5}},
		{Kind: api.SDel, ID: 10, Hints: []int64{3}},
		{Kind: api.SDel, ID: 10, Hints: []int64{4}},
		{Kind: api.SAdd, ID: 11, Hints: []int64{6}},
	}
	if got := b.Steps(); !slices.EqualFunc(got, steps, sameStep) {
		t.Errorf("Steps: %v", got)
	}
	stack := []api.Witness{{Lits: lits(1, 4, -3), Clause: lits(1, -2)}, {Lits: lits(-2, -1), Clause: lits(-1, -2)}}
	if got := b.Stack(); !slices.EqualFunc(got, stack, sameWitness) {
		t.Errorf("Stack: %v", got)
	}
}

// P7.6: a copy, wherever on the way it is made, is the same, and goes on as the one that it was made of.
func TestCopy(t *testing.T) {
	calls := someCalls()
	for n := range len(calls) + 1 {
		b, p := made(t, someFormula()), newPlain(someFormula())
		for _, c := range calls[:n] {
			both(t, b, p, c)
		}
		at := p.cloned()
		first, second := b.Copy(), b.Copy()
		same(t, first, at)
		for _, c := range calls[n:] {
			if e := both(t, b, p, c); e != api.OK {
				t.Errorf("%v: %d", c, e)
			}
		}
		same(t, first, at)
		q := at.cloned()
		for _, c := range calls[n:] {
			if e := both(t, first, q, c); e != api.OK {
				t.Errorf("%v, of a copy: %d", c, e)
			}
		}
		same(t, first, p)
		same(t, second, at)
		same(t, second.Copy(), at)
	}
}

// P7.6: what is done to one is not seen in the other, when both go on in their own ways.
func TestCopyApart(t *testing.T) {
	b, p := filled(t)
	c, q := b.Copy(), p.cloned()
	for i := range 40 {
		both(t, b, p, addCall(true, lits(2, 1, api.Lit(i%9+1)), 8))
		both(t, c, q, addCall(true, lits(2, -5), 8, int64(i)))
		if i%3 == 0 {
			both(t, b, p, deleteCall(p.last))
			both(t, c, q, keepCall(q.last))
		}
		if i%5 == 0 {
			both(t, b, p, keepCall(p.last))
			both(t, c, q, weakenCall(q.last-1, 2))
			both(t, c, q, weakenCall(q.last, 2, -5))
			both(t, b, p, weakenCall(p.last, 1))
		}
		both(t, b, p, dropCall(p.last, 8))
		both(t, b, p, addCall(true, nil, 6))
		same(t, c, q)
		same(t, b, p)
	}
}

// guarded is a copy of a row with something behind its length, and a call that tells whether both are still the same.
func guarded[S ~[]T, T comparable](row S, behind T) (S, func() bool) {
	whole := append(slices.Clone(row), behind, behind)
	kept := slices.Clone(whole)
	return whole[:len(row)], func() bool { return slices.Equal(whole, kept) }
}

// P7.7: what is handed in is only read, what lies behind a row's length included.
func TestOnlyRead(t *testing.T) {
	f := someFormula()
	var asked []func() bool
	for i, c := range f.Clauses {
		row, ok := guarded(c, 77)
		f.Clauses[i] = row
		asked = append(asked, ok)
	}
	many := append(slices.Clone(f.Clauses), lits(2), lits(1))
	f.Clauses = many[:6]
	b := made(t, f)
	calls := append(someCalls(), addCall(true, lits(2, 0), 1), addCall(true, lits(9), 2, 1), weakenCall(2, 2, -9, 9), weakenCall(2, 9))
	for _, c := range calls {
		row, ok := guarded(c.lits, 0)
		hints, also := guarded(c.hints, 0)
		c.lits, c.hints = row, hints
		asked = append(asked, ok, also)
		c.onBase(b)
	}
	for i, ok := range asked {
		if !ok() {
			t.Errorf("row %d was changed", i)
		}
	}
	if !slices.Equal(many[6], lits(2)) || !slices.Equal(many[7], lits(1)) {
		t.Error("clauses behind the formula's were changed")
	}
}

// spoil writes over a row, up to where its memory ends.
func spoil[S ~[]T, T int64 | api.Lit](row S) {
	row = row[:cap(row)]
	for i := range row {
		row[i] = -99
	}
}

// P7.7: what is handed in is copied: it may be written over behind the call.
func TestCopied(t *testing.T) {
	f := someFormula()
	shared := lits(1, 2, 1)
	f.Clauses = append(f.Clauses[:5:5], nil, shared, shared[:2], shared[1:])
	b, p := made(t, f), newPlain(f)
	for _, c := range f.Clauses {
		spoil(c)
	}
	f.Clauses[4] = nil
	same(t, b, p)
	calls := append(someCalls()[1:], addCall(false, lits(8, 2, 9), 9), weakenCall(7, 1, 2), dropCall(5, 0))
	calls[0].red = true
	for _, c := range calls {
		both(t, b, p, c)
		spoil(c.lits)
		spoil(c.hints)
		same(t, b, p)
	}
}

// spoilAnswers writes over all that a base answers, list by list, each of which must be as it was till then: so no two share memory.
func spoilAnswers(t *testing.T, b *Base, p *plain) {
	t.Helper()
	for i, c := range b.Entries() {
		if !sameEntry(c, p.live[i]) {
			t.Errorf("Entries: the one at %d was written over: %v", i, c)
		}
		spoil(c.Lits)
		got, _ := b.Get(c.ID)
		spoil(got.Lits)
	}
	for i, s := range b.Steps() {
		if !sameStep(s, p.steps[i]) {
			t.Errorf("Steps: the one at %d was written over: %v", i, s)
		}
		spoil(s.Lits)
		if !slices.Equal(s.Hints, p.steps[i].Hints) {
			t.Errorf("Steps: hints at %d were written over: %v", i, s)
		}
		spoil(s.Hints)
	}
	for i, r := range b.Rules() {
		if !sameRule(r, p.rules[i]) {
			t.Errorf("Rules: the one at %d was written over: %v", i, r)
		}
		spoil(r.Lits)
		if !slices.Equal(r.Hints, p.rules[i].Hints) {
			t.Errorf("Rules: hints at %d were written over: %v", i, r)
		}
		spoil(r.Hints)
	}
	for i, w := range b.Stack() {
		if !sameWitness(w, p.stack[i]) {
			t.Errorf("Stack: the one at %d was written over: %v", i, w)
		}
		spoil(w.Lits)
		if !slices.Equal(w.Clause, p.stack[i].Clause) {
			t.Errorf("Stack: the clause at %d was written over: %v", i, w)
		}
		spoil(w.Clause)
	}
	for l := api.Lit(-9); l <= 9; l++ {
		spoil(b.Occurs(l))
	}
}

// spoilRows writes over the rows of things themselves.
func spoilRows(b *Base) {
	entries, steps, rules, stack := b.Entries(), b.Steps(), b.Rules(), b.Stack()
	clear(entries[:cap(entries)])
	clear(steps[:cap(steps)])
	clear(rules[:cap(rules)])
	clear(stack[:cap(stack)])
}

// P7.7: what is answered is new memory, also of a copy, and of the one that it was made of.
func TestNewMemory(t *testing.T) {
	b, p := filled(t)
	at := p.cloned()
	early := b.Copy()
	for _, c := range []call{addCall(true, lits(2, -9, 2), 8), addCall(true, lits(2, 9), 8), keepCall(12), weakenCall(12, 2, 4)} {
		both(t, b, p, c)
	}
	late := b.Copy()
	for _, x := range []struct {
		*Base
		*plain
	}{{b, p}, {early, at}, {late, p}} {
		spoilAnswers(t, x.Base, x.plain)
		spoilRows(x.Base)
		same(t, b, p)
		same(t, early, at)
		same(t, late, p)
	}
	// All of them go on rightly.
	q := p.cloned()
	for _, c := range []call{addCall(true, lits(2, 7), 8), addCall(false, nil, 2, 11), deleteCall(13), dropCall(10, 8)} {
		both(t, b, p, c)
		both(t, late, q, c)
		both(t, early, at, c)
	}
	same(t, b, p)
	same(t, late, q)
	same(t, early, at)
}

// P7.1, P7.7: two bases of one formula know nothing of each other.
func TestTwo(t *testing.T) {
	f := square()
	a, b := made(t, f), made(t, f)
	a.Add(lits(2), []int64{1, 2}, true)
	a.Drop(1, 5)
	a.Weaken(3, lits(1))
	same(t, b, newPlain(f))
	if id, e := b.Add(lits(1), []int64{1, 3}, true); id != 5 || e != api.OK {
		t.Errorf("%d %d", id, e)
	}
	if c, _ := a.Get(5); !slices.Equal(c.Lits, lits(2)) {
		t.Error(c)
	}
}
