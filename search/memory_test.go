package search

import (
	"fmt"
	"slices"
	"testing"

	"threshing/api"
	"threshing/check"
)

// A model is new memory: whoever writes to it, and behind it, changes no other answer, and no base.
func TestModelIsNew(t *testing.T) {
	f := of(6, lits(1, -2), lits(2, 3), lits(-4, 5, 6))
	b := made(t, f)
	first := searched(t, b, Default())
	want, was := fmt.Sprint(first), told(b)
	second := searched(t, b, Default())
	m := first.Model[:cap(first.Model)]
	for i := range m {
		m[i] = !m[i]
	}
	if got := fmt.Sprint(second); got != want || told(b) != was {
		t.Errorf("%s, want %s", got, want)
	}
	if third := searched(t, b, Default()); fmt.Sprint(third) != want {
		t.Errorf("%v, want %s", third, want)
	}
}

// What was handed in to make the base, and copies of it, are as they were.
func TestCopiesStay(t *testing.T) {
	f := holes(5)
	was := fmt.Sprint(f)
	b := made(t, f)
	other, before := b.Copy(), told(b)
	if r := searched(t, b, Default()); r.Verdict != api.Unsat || told(other) != before || fmt.Sprint(f) != was {
		t.Errorf("%v: a copy is %s, was %s", r, told(other), before)
	}
	behind := told(b)
	searched(t, other, small(Default()))
	if told(b) != behind {
		t.Errorf("%s, was %s", told(b), behind)
	}
}

// The base goes on behind a search: what is done to it has the next id, and stands as the next step.
func TestBaseGoesOn(t *testing.T) {
	o := Default()
	o.Conflicts = 20
	b := made(t, holes(6))
	for range 3 {
		if r := searched(t, b, o); r.Verdict != api.Unknown {
			t.Fatalf("%v", r)
		}
		last, steps := b.Last(), len(b.Steps())
		id, e := b.Add(lits(3, -3), nil, true)
		if e != api.OK || id != last+1 {
			t.Errorf("%d, %d; the last was %d", id, e, last)
		}
		must(t, b.Delete(id))
		if len(b.Steps()) != steps+2 || b.Last() != id {
			t.Errorf("%d steps, were %d", len(b.Steps()), steps)
		}
		b = b.Copy()
		o.Conflicts -= 8
	}
	o.Conflicts = 0
	r := searched(t, b, o)
	if done, n, e := check.Run(holes(6), b.Steps()); r.Verdict != api.Unsat || !done || e != api.OK {
		t.Errorf("%v: %t, %d, %d", r, done, n, e)
	}
}

// Options are only read.
func TestOptionsOnlyRead(t *testing.T) {
	for _, o := range variants() {
		was := o
		Right(o)
		searched(t, made(t, holes(4)), o)
		if o != was {
			t.Errorf("%+v, was %+v", o, was)
		}
	}
}

// As many variables as there may be: without clauses; and one literal behind the other, from a unit, and from what is decided. (Nothing is done for each decision that takes time by how many there are.)
func TestGreat(t *testing.T) {
	for mode := range 3 {
		o := Default()
		o.Mode = mode
		r, e := Run(made(t, of(api.MaxVar)), o)
		if e != api.OK || r.Verdict != api.Sat || len(r.Model) != api.MaxVar || slices.Contains(r.Model, false) || r.Decisions != api.MaxVar {
			t.Errorf("mode %d: %d, %d decisions, %d", mode, r.Verdict, r.Decisions, e)
		}
		const long = 1 << 16
		f := of(long, lits(1))
		for v := api.Lit(1); v < long; v++ {
			f.Clauses = append(f.Clauses, lits(v+1, -v))
		}
		b := made(t, f)
		r, e = Run(b, o)
		if e != api.OK || r.Verdict != api.Sat || r.Decisions != 0 || len(b.Steps()) != long-1 {
			t.Errorf("mode %d: %d, %d decisions, %d steps, %d", mode, r.Verdict, r.Decisions, len(b.Steps()), e)
		}
		f.Clauses[0] = lits(-1, -long)
		b = made(t, f)
		r, e = Run(b, o)
		if e != api.OK || r.Verdict != api.Sat || r.Model[0] {
			t.Errorf("mode %d: %d, %d", mode, r.Verdict, e)
		}
		f.Clauses = append(f.Clauses, lits(1, long), lits(1, -long))
		b = made(t, f)
		r, e = Run(b, o)
		if done, _, wrong := check.Run(f, b.Steps()); e != api.OK || r.Verdict != api.Unsat || !done || wrong != api.OK {
			t.Errorf("mode %d: %d, %d; %t, %d", mode, r.Verdict, e, done, wrong)
		}
	}
}
