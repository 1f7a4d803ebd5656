package check

import (
	"slices"
	"testing"

	"threshing/api"
	"threshing/cnf"
)

// fourClauses is the chapter's formula.
func fourClauses() api.Formula {
	return api.Formula{Vars: 2, Clauses: []api.Clause{{1, 2}, {1, -2}, {-1, 2}, {-1, -2}}}
}

func made(t *testing.T, f api.Formula) *Checker {
	t.Helper()
	c, e := New(f)
	if e != api.OK || c == nil {
		t.Fatalf("New: %v %d", c, e)
	}
	return c
}

func of(clauses ...api.Clause) api.Formula {
	return api.Formula{Vars: 9, Clauses: clauses}
}

func added(id int64, lits api.Clause, hints ...int64) api.Step {
	return api.Step{Kind: api.SAdd, ID: id, Lits: lits, Hints: hints}
}

func gone(id int64, hints ...int64) api.Step {
	return api.Step{Kind: api.SDel, ID: id, Hints: hints}
}

// lits is a short way to write a clause.
func lits(l ...api.Lit) api.Clause { return l }

// answers asks what a checker says to a step, and that it stays as it was if that is an error.
func answers(t *testing.T, c *Checker, s api.Step, want api.Errno) {
	t.Helper()
	before, done := clausesOf(c), c.Done()
	if got := c.Step(s); got != want {
		t.Errorf("%v: %d, want %d", s, got, want)
		return
	}
	if want == api.OK {
		return
	}
	if after := clausesOf(c); !slices.EqualFunc(before, after, sameEntry) || done != c.Done() {
		t.Errorf("%v: it answers %d, and makes of %v %v", s, want, before, after)
	}
}

// stays asks what a checker of these clauses says to one step.
func stays(t *testing.T, f api.Formula, s api.Step, want api.Errno) {
	t.Helper()
	answers(t, made(t, f), s, want)
}

func clausesOf(c *Checker) []api.Entry {
	var l []api.Entry
	for _, id := range c.Live() {
		lits, _ := c.Get(id)
		l = append(l, api.Entry{ID: id, Lits: lits})
	}
	return l
}

func sameEntry(a, b api.Entry) bool { return a.ID == b.ID && slices.Equal(a.Lits, b.Lits) }

// The chapter's examples.
func TestExamples(t *testing.T) {
	f := fourClauses()
	c := made(t, f)
	answers(t, c, added(5, lits(1), 1, 2), api.OK)
	if c.Done() {
		t.Error("Done ahead of the empty clause")
	}
	answers(t, c, added(6, nil, 5, 3, 4), api.OK)
	if !c.Done() {
		t.Error("not Done")
	}
	for _, x := range []struct {
		s    api.Step
		want api.Errno
	}{
		{added(5, lits(1), 2, 1, 1), api.OK},
		{added(5, lits(1), 1), api.ErrProof},
		{added(5, lits(1), 9), api.ErrHint},
		{added(4, lits(1), 1, 2), api.ErrID},
		{added(5, nil), api.ErrProof},
		{added(5, lits(3, 1)), api.OK},
		{added(5, lits(-3, 3), 77), api.OK},
		{added(5, lits(1), -3, -4), api.ErrProof},
		{added(5, lits(1), -3, 1, -4, 2), api.OK},
		{gone(0, 1, 1), api.ErrNone},
		{gone(0, 9), api.ErrNone},
		{gone(0, 1, 2), api.OK},
	} {
		stays(t, f, x.s, x.want)
	}
}

// P6.1: cnf.Right's error, and nothing beside it.
func TestNewWrong(t *testing.T) {
	for _, f := range []api.Formula{
		{Vars: -1},
		{Vars: api.MaxVar + 1},
		{Vars: 1, Clauses: make([]api.Clause, api.MaxClauses+1)},
		{Vars: 2, Clauses: []api.Clause{{1}, {2, 0}}},
		{Vars: 2, Clauses: []api.Clause{{1}, {-3}}},
		{Vars: 0, Clauses: []api.Clause{{1}}},
		{Vars: 1, Clauses: []api.Clause{make(api.Clause, api.MaxLits+1)}},
		{Vars: 1, Clauses: []api.Clause{slices.Repeat(api.Clause{1}, api.MaxLits), {1}}},
		{Vars: 1, Clauses: []api.Clause{{-1 << 31}}},
	} {
		want := cnf.Right(f)
		if want == api.OK {
			t.Fatal("the formula is right")
		}
		if c, e := New(f); c != nil || e != want {
			t.Errorf("New: %v %d, want %d", c, e, want)
		}
		for _, l := range [][]api.Step{nil, {added(1, nil)}, {gone(0)}} {
			if ok, n, e := Run(f, l); ok || n != 0 || e != want {
				t.Errorf("Run: %v %d %d, want %d", ok, n, e, want)
			}
		}
	}
}

// P6.1, P6.3: a checker has the formula's clauses as they were handed in, under 1, 2, 3, and so on.
func TestNew(t *testing.T) {
	for _, f := range []api.Formula{
		{},
		{Vars: api.MaxVar},
		{Clauses: []api.Clause{}},
		{Clauses: []api.Clause{{}}},
		{Clauses: []api.Clause{nil, {}}},
		{Vars: 3, Clauses: []api.Clause{{3, -1, 3}, {2}, {2}, {1, -1}, {-3, 2, 1}}},
		{Vars: 3, Clauses: []api.Clause{{3}, nil, {-3}}},
		{Vars: api.MaxVar, Clauses: []api.Clause{{api.MaxVar, -api.MaxVar, 1}}},
	} {
		same(t, made(t, f), newPlain(f))
	}
}

// P6.1: a checker that is not there.
func TestNil(t *testing.T) {
	var c *Checker
	for _, s := range []api.Step{{}, added(1, nil), added(1, lits(1)), added(0, lits(0), 0), gone(0), gone(1, 1), gone(-1, -1)} {
		if e := c.Step(s); e != api.ErrNil {
			t.Errorf("%v: %d, want %d", s, e, api.ErrNil)
		}
	}
	if c.Done() {
		t.Error("Done")
	}
	if l := c.Live(); len(l) != 0 {
		t.Errorf("Live: %v", l)
	}
	for _, id := range []int64{-1 << 63, -1, 0, 1, 1<<63 - 1} {
		if l, ok := c.Get(id); ok || len(l) != 0 {
			t.Errorf("Get(%d): %v %v", id, l, ok)
		}
	}
}

// A checker that was not made by New is one without clauses.
func TestZero(t *testing.T) {
	for _, s := range []api.Step{added(1, nil), added(1, nil, 1), added(1, lits(1), 1), added(1, lits(1), -1), gone(1, 1), {}} {
		var c Checker
		want := newPlain(api.Formula{}).step(s)
		answers(t, &c, s, want)
	}
	var c Checker
	same(t, &c, newPlain(api.Formula{}))
	p := newPlain(api.Formula{})
	for _, s := range []api.Step{gone(7), added(3, lits(2, -1)), added(4, lits(1), -3, 2), added(4, lits(1, 2)), added(5, lits(1, -2), 3), gone(0, 3)} {
		answers(t, &c, s, p.step(s))
		same(t, &c, p)
	}
}

// P6.3: Done stays, when the empty clause goes.
func TestDone(t *testing.T) {
	c := made(t, of(lits(1), nil, lits(2)))
	if !c.Done() {
		t.Error("not Done, with an empty clause in the formula")
	}
	answers(t, c, gone(0, 2), api.OK)
	if !c.Done() {
		t.Error("not Done, behind the empty clause's deletion")
	}
	if _, ok := c.Get(2); ok {
		t.Error("the empty clause stands")
	}
	answers(t, c, added(4, nil, 1), api.ErrProof)
	c = made(t, of(lits(1), lits(-1)))
	answers(t, c, added(3, nil, 1), api.ErrProof)
	if c.Done() {
		t.Error("Done by a clause that did not follow")
	}
	answers(t, c, added(3, nil, 1, 2), api.OK)
	answers(t, c, gone(0, 1, 2, 3), api.OK)
	if !c.Done() || len(c.Live()) != 0 {
		t.Error(c.Done(), c.Live())
	}
}

// P6.3: ids are told rising, whatever their size and the order in which they came and went.
func TestLive(t *testing.T) {
	c := made(t, of(lits(1), lits(2), lits(3)))
	answers(t, c, added(10, lits(1, 4), 1), api.OK)
	answers(t, c, added(9, lits(1, 4), 1), api.ErrID)
	answers(t, c, added(1<<40, lits(2, 5), 2), api.OK)
	answers(t, c, gone(0, 10, 2), api.OK)
	answers(t, c, added(api.MaxID, lits(3, 1), 3), api.OK)
	if got := c.Live(); !slices.Equal(got, []int64{1, 3, 1 << 40, api.MaxID}) {
		t.Error(got)
	}
	if got, ok := c.Get(1 << 40); !ok || !slices.Equal(got, lits(2, 5)) {
		t.Error(got, ok)
	}
	if got, ok := c.Get(10); ok || got != nil {
		t.Error(got, ok)
	}
}

// P6.3: a clause is told as it was handed in.
func TestGet(t *testing.T) {
	c := made(t, of(lits(3, -1, 3, 2)))
	answers(t, c, added(2, lits(9, -1, 9, 2, -1, 3), 1), api.OK)
	answers(t, c, added(3, lits(5, -2, 5, 2)), api.OK)
	for id, want := range map[int64]api.Clause{1: {3, -1, 3, 2}, 2: {9, -1, 9, 2, -1, 3}, 3: {5, -2, 5, 2}} {
		if got, ok := c.Get(id); !ok || !slices.Equal(got, want) {
			t.Errorf("Get(%d): %v %v, want %v", id, got, ok, want)
		}
	}
}

// P6.4.
func TestRun(t *testing.T) {
	f := fourClauses()
	unit, end, bad := added(5, lits(1), 1, 2), added(6, nil, 5, 3, 4), added(6, nil, 5, 3)
	for _, x := range []struct {
		f    api.Formula
		l    []api.Step
		done bool
		n    int
		e    api.Errno
	}{
		{f, nil, false, 0, api.OK},
		{f, []api.Step{}, false, 0, api.OK},
		{f, []api.Step{unit}, false, 1, api.OK},
		{f, []api.Step{unit, end}, true, 2, api.OK},
		{f, []api.Step{unit, gone(5, 1, 2), end}, true, 3, api.OK},
		{f, []api.Step{unit, gone(5, 3), end}, false, 2, api.ErrHint},
		{f, []api.Step{unit, bad}, false, 1, api.ErrProof},
		{f, []api.Step{unit, bad, end}, false, 1, api.ErrProof},
		{f, []api.Step{unit, end, bad}, true, 2, api.OK},
		{f, []api.Step{unit, end, {}}, true, 2, api.OK},
		{f, []api.Step{unit, {}, end}, false, 1, api.ErrStep},
		{f, []api.Step{unit, unit, end}, false, 1, api.ErrID},
		{f, []api.Step{gone(0, 5), unit}, false, 0, api.ErrNone},
		{of(nil), nil, true, 0, api.OK},
		{of(lits(1), nil), []api.Step{{}, gone(0, 9)}, true, 0, api.OK},
		{of(lits(1), nil), []api.Step{gone(0, 2)}, true, 0, api.OK},
		{api.Formula{}, nil, false, 0, api.OK},
		{api.Formula{}, []api.Step{gone(0)}, false, 1, api.OK},
	} {
		if done, n, e := Run(x.f, x.l); done != x.done || n != x.n || e != x.e {
			t.Errorf("%v, %v: %v %d %d, want %v %d %d", x.f, x.l, done, n, e, x.done, x.n, x.e)
		}
	}
}

// P6.4: a proof of many steps.
func TestRunLong(t *testing.T) {
	const n = 200000
	l := make([]api.Step, 0, 2*n)
	for i := range int64(n) {
		l = append(l, added(5+i, lits(1), 1, 2), gone(0, 5+i))
	}
	if done, got, e := Run(fourClauses(), l); done || got != 2*n || e != api.OK {
		t.Error(done, got, e)
	}
	l = append(l, added(5+n, lits(1), 2, 1), added(6+n, nil, 5+n, 4, 3), api.Step{})
	if done, got, e := Run(fourClauses(), l); !done || got != 2*n+2 || e != api.OK {
		t.Error(done, got, e)
	}
	l[2*n-1].Hints = []int64{3 + n}
	if done, got, e := Run(fourClauses(), l); done || got != 2*n-1 || e != api.ErrNone {
		t.Error(done, got, e)
	}
}
