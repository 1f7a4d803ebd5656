package base

import (
	"math"
	"slices"
	"testing"

	"threshing/api"
	"threshing/cnf"
)

// square is the chapter's formula.
func square() api.Formula {
	return api.Formula{Vars: 2, Clauses: []api.Clause{{1, 2}, {-1, 2}, {1, -2}, {-1, -2}}}
}

// of is a formula of 9 variables.
func of(clauses ...api.Clause) api.Formula {
	return api.Formula{Vars: 9, Clauses: clauses}
}

func made(t *testing.T, f api.Formula) *Base {
	t.Helper()
	b, e := New(f)
	if e != api.OK || b == nil {
		t.Fatalf("New: %v %d", b, e)
	}
	return b
}

// lits is a short way to write a clause.
func lits(l ...api.Lit) api.Clause { return l }

// wanted is a call, and the answer that is written down for it.
type wanted struct {
	call
	id int64
	e  api.Errno
}

// answers asks for each call, one behind the other, that a base answers as written down, and the plain one too; that behind each it has what the plain one has; so with an error nothing has changed.
func answers(t *testing.T, f api.Formula, l ...wanted) (*Base, *plain) {
	t.Helper()
	b, p := made(t, f), newPlain(f)
	for i, x := range l {
		before := p.cloned()
		if id, e := x.onPlain(p); id != x.id || e != x.e {
			t.Fatalf("call %d, %v: the plain one says %d %d, not %d %d", i, x.call, id, e, x.id, x.e)
		}
		if id, e := x.onBase(b); id != x.id || e != x.e {
			t.Errorf("call %d, %v: %d %d, want %d %d", i, x.call, id, e, x.id, x.e)
		}
		if x.e != api.OK {
			same(t, b, before)
		}
		same(t, b, p)
	}
	return b, p
}

// each asks the same of each call on a base of its own.
func each(t *testing.T, f api.Formula, l ...wanted) {
	t.Helper()
	for _, x := range l {
		answers(t, f, x)
	}
}

// The chapter's examples.
func TestExamples(t *testing.T) {
	b, _ := answers(t, square(),
		wanted{addCall(true, lits(2), 1, 2), 5, api.OK},
		wanted{addCall(false, nil, 5, 3, 4), 6, api.OK},
		wanted{addCall(false, nil, 3, 4), 0, api.ErrHint},
		wanted{addCall(false, lits(1)), 0, api.ErrProof},
		wanted{addCall(false, lits(1), 9), 0, api.ErrHint},
		wanted{addCall(false, lits(3)), 0, api.ErrLit},
		wanted{addCall(true, lits(1, -1)), 7, api.OK},
		wanted{deleteCall(1), 0, api.ErrState},
		wanted{dropCall(1, 5), 0, api.OK},
	)
	if c, ok := b.Get(5); !ok || c.Red {
		t.Errorf("the clause 2 is not kept: %v", c)
	}
	for i, x := range []struct{ got, want api.Errno }{
		{b.Drop(2, 1), api.ErrNone}, {b.Keep(5), api.OK},
		{b.Weaken(3, lits(-2)), api.OK}, {b.Weaken(4, lits(1)), api.ErrArg}, {b.Weaken(4, nil), api.ErrArg},
	} {
		if x.got != x.want {
			t.Errorf("%d: %d, want %d", i, x.got, x.want)
		}
	}
	if s := b.Stack(); !slices.EqualFunc(s, []api.Witness{{Lits: lits(-2), Clause: lits(1, -2)}}, sameWitness) {
		t.Errorf("Stack: %v", s)
	}
}

// P7.1: cnf.Right's error, and nothing beside it.
func TestNewWrong(t *testing.T) {
	for _, x := range []struct {
		f    api.Formula
		want api.Errno
	}{
		{api.Formula{Vars: -1}, api.ErrArg},
		{api.Formula{Vars: api.MaxVar + 1}, api.ErrArg},
		{api.Formula{Vars: math.MinInt}, api.ErrArg},
		{api.Formula{Vars: math.MaxInt}, api.ErrArg},
		{api.Formula{Vars: 1, Clauses: make([]api.Clause, api.MaxClauses+1)}, api.ErrLimit},
		{api.Formula{Vars: 2, Clauses: []api.Clause{{1}, {2, 0}}}, api.ErrLit},
		{api.Formula{Vars: 2, Clauses: []api.Clause{{1}, {-3}}}, api.ErrLit},
		{api.Formula{Vars: 0, Clauses: []api.Clause{{1}}}, api.ErrLit},
		{api.Formula{Vars: 1, Clauses: []api.Clause{{math.MinInt32}}}, api.ErrLit},
		{api.Formula{Vars: 1, Clauses: []api.Clause{slices.Repeat(lits(1), api.MaxLits), {1}}}, api.ErrLimit},
	} {
		if e := cnf.Right(x.f); e != x.want {
			t.Fatalf("cnf.Right: %d, want %d", e, x.want)
		}
		if b, e := New(x.f); b != nil || e != x.want {
			t.Errorf("New: %v %d, want %d", b, e, x.want)
		}
	}
}

// P7.1: the formula's clauses as they stand, not redundant, under 1, 2, 3, and nothing else.
func TestNew(t *testing.T) {
	for _, f := range []api.Formula{
		{},
		{Clauses: []api.Clause{}},
		{Vars: 3},
		{Vars: api.MaxVar},
		{Clauses: []api.Clause{{}}},
		{Clauses: []api.Clause{nil, {}}},
		square(),
		of(lits(3, -1, 3, 2), lits(2), lits(2), lits(1, -1), lits(2), lits(-3, 2, 1)),
		of(lits(3), nil, lits(-3), nil),
		{Vars: api.MaxVar, Clauses: []api.Clause{{api.MaxVar, -api.MaxVar, 1}}},
	} {
		b := made(t, f)
		same(t, b, newPlain(f))
		if b.Vars() != f.Vars || b.Last() != int64(len(f.Clauses)) || len(b.Entries()) != len(f.Clauses) {
			t.Errorf("%v: %d %d", f, b.Vars(), b.Last())
		}
		for i, c := range f.Clauses {
			if got, ok := b.Get(int64(i) + 1); !ok || got.ID != int64(i)+1 || got.Red || !slices.Equal(got.Lits, c) {
				t.Errorf("%v: Get(%d): %v %t", f, i+1, got, ok)
			}
		}
		if len(b.Steps())+len(b.Stack())+len(b.Rules()) != 0 {
			t.Errorf("%v: %v %v %v", f, b.Steps(), b.Stack(), b.Rules())
		}
	}
}

// P7.1: a formula at the limits.
func TestNewMost(t *testing.T) {
	f := api.Formula{Vars: api.MaxVar, Clauses: make([]api.Clause, api.MaxClauses)}
	row := slices.Repeat(lits(api.MaxVar, -1), api.MaxLits/api.MaxClauses/2)
	for i := range f.Clauses {
		f.Clauses[i] = row
	}
	b := made(t, f)
	if b.Last() != api.MaxClauses || len(b.Occurs(-1)) != api.MaxClauses || len(b.Occurs(api.MaxVar)) != api.MaxClauses {
		t.Errorf("%d clauses, -1 is in %d", b.Last(), len(b.Occurs(-1)))
	}
	if id, e := b.Add(lits(-1, api.MaxVar), []int64{api.MaxClauses}, true); id != api.MaxClauses+1 || e != api.OK {
		t.Errorf("Add: %d %d", id, e)
	}
	// Clauses go one by one, from the first on, though all of them have the same literals.
	for id := range int64(api.MaxClauses) {
		if e := b.Drop(id+1, api.MaxClauses+1); e != api.OK {
			t.Fatalf("Drop(%d): %d", id+1, e)
		}
	}
	if got := b.Occurs(-1); !slices.Equal(got, []int64{api.MaxClauses + 1}) {
		t.Errorf("%d are left", len(got))
	}
}

// P7.1: a base that is not there.
func TestNil(t *testing.T) {
	var b *Base
	for _, id := range []int64{math.MinInt64, -1, 0, 1, math.MaxInt64} {
		for _, c := range []call{
			addCall(true, nil), addCall(false, lits(1, -1)), addCall(true, lits(0), id), addCall(false, lits(1), id),
			keepCall(id), deleteCall(id), dropCall(id, 0), dropCall(id, id), weakenCall(id), weakenCall(id, 1), weakenCall(id, 0),
		} {
			if got, e := c.onBase(b); got != 0 || e != api.ErrNil {
				t.Errorf("%v: %d %d", c, got, e)
			}
		}
		if c, ok := b.Get(id); ok || !sameEntry(c, api.Entry{}) {
			t.Errorf("Get(%d): %v %t", id, c, ok)
		}
		if l := b.Occurs(api.Lit(id)); len(l) != 0 {
			t.Errorf("Occurs(%d): %v", id, l)
		}
	}
	if id, ok := b.Empty(); id != 0 || ok {
		t.Errorf("Empty: %d %t", id, ok)
	}
	if b.Vars() != 0 || b.Last() != 0 || len(b.Entries())+len(b.Steps())+len(b.Stack())+len(b.Rules()) != 0 || b.Copy() != nil {
		t.Error("a base that is not there has something")
	}
}

// A base that was not made by New is one of no variables and no clauses.
func TestZero(t *testing.T) {
	var b Base
	p := newPlain(api.Formula{})
	for _, x := range []*Base{&b, b.Copy()} {
		for _, c := range []call{
			addCall(false, nil), addCall(true, nil, 1), addCall(true, nil, 0), addCall(true, lits(1)), addCall(true, lits(1, -1)), addCall(true, lits(0)),
			keepCall(0), keepCall(1), deleteCall(0), deleteCall(1), dropCall(0, 0), dropCall(1, 0), weakenCall(0), weakenCall(1, 1),
		} {
			if both(t, x, p, c) == api.OK {
				t.Errorf("%v: OK", c)
			}
			same(t, x, p)
		}
	}
}

// P7.5: which of several empty clauses, and what is left when it goes.
func TestEmpty(t *testing.T) {
	b, p := answers(t, of(lits(1), nil, lits(-1), nil),
		wanted{addCall(true, nil, 1, 3), 5, api.OK},
		wanted{addCall(true, nil, 4), 6, api.OK},
	)
	for _, x := range []struct {
		call
		least int64
	}{{keepCall(5), 2}, {dropCall(2, 5), 4}, {dropCall(4, 6), 5}, {dropCall(1, 6), 5}, {dropCall(5, 6), 6}} {
		if id, ok := b.Empty(); id == 0 || !ok {
			t.Errorf("ahead of %v: %d %t", x.call, id, ok)
		}
		if e := both(t, b, p, x.call); e != api.OK {
			t.Errorf("%v: %d", x.call, e)
		}
		if id, ok := b.Empty(); id != x.least || !ok {
			t.Errorf("behind %v: %d %t, want %d", x.call, id, ok, x.least)
		}
		same(t, b, p)
	}
	b = made(t, of(lits(1), lits(-1)))
	if id, ok := b.Empty(); id != 0 || ok {
		t.Errorf("none, and %d %t", id, ok)
	}
	b.Add(nil, []int64{1, 2}, true)
	if id, ok := b.Empty(); id != 3 || !ok {
		t.Errorf("3, and %d %t", id, ok)
	}
	if e := b.Delete(3); e != api.OK {
		t.Errorf("Delete: %d", e)
	}
	if id, ok := b.Empty(); id != 0 || ok {
		t.Errorf("it went, and %d %t", id, ok)
	}
}

// P7.5: where literals are, when clauses have them twice, or stand several times, or went.
func TestOccurs(t *testing.T) {
	b, p := answers(t, of(lits(1, 2, 1), lits(1, 1), lits(-1, 1), lits(2, 1), lits(1, 1), lits(2)),
		wanted{addCall(true, lits(1, 3, 1, 3), 2), 7, api.OK},
		wanted{addCall(true, lits(3, -3, 3)), 8, api.OK},
	)
	for _, x := range []struct {
		l    api.Lit
		want []int64
	}{{1, []int64{1, 2, 3, 4, 5, 7}}, {-1, []int64{3}}, {2, []int64{1, 4, 6}}, {3, []int64{7, 8}}, {-3, []int64{8}}, {4, nil}, {-2, nil}, {9, nil}, {10, nil}, {0, nil}, {math.MinInt32, nil}} {
		if got := b.Occurs(x.l); !slices.Equal(got, x.want) {
			t.Errorf("Occurs(%d): %v, want %v", x.l, got, x.want)
		}
	}
	for _, c := range []call{deleteCall(7), dropCall(2, 5), dropCall(4, 6), dropCall(3, 0), weakenCall(1, 1), weakenCall(5, 1), deleteCall(8), addCall(true, lits(1, 2, 3), 6), addCall(true, lits(-2, 3, 2, 3))} {
		if e := both(t, b, p, c); e != api.OK {
			t.Errorf("%v: %d", c, e)
		}
		same(t, b, p)
	}
	if got := b.Occurs(1); !slices.Equal(got, []int64{9}) {
		t.Errorf("Occurs(1): %v", got)
	}
	if got := b.Occurs(3); !slices.Equal(got, []int64{9, 10}) {
		t.Errorf("Occurs(3): %v", got)
	}
}
