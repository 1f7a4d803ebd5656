// Package sample makes bases to test layers with that work on one: out of any bytes, and full ones; and tells what is promised of all of them.
package sample

import (
	"slices"

	"threshing/api"
	"threshing/base"
	"threshing/check"
	"threshing/cnf"
)

// Most is how many variables a base out of bytes has, at most.
const Most = 8

// source tells bytes one by one, and noughts behind the last one.
type source struct{ data []byte }

func (s *source) next() int {
	if len(s.data) == 0 {
		return 0
	}
	n := int(s.data[0])
	s.data = s.data[1:]
	return n
}

// of is a number below n.
func (s *source) of(n int) int { return s.next() % n }

// Base is a formula, and a base of it, to which things were done: clauses came in that follow, redundant or not, were kept, deleted, dropped, weakened.
func Base(data []byte) (api.Formula, *base.Base) {
	s := &source{data}
	f := s.formula()
	b, e := base.New(f)
	if e != api.OK {
		return api.Formula{}, nil
	}
	for len(s.data) > 0 {
		s.change(b)
	}
	return f, b
}

// Formula is a formula of a few short clauses.
func Formula(data []byte) api.Formula {
	s := &source{data}
	return s.formula()
}

func (s *source) formula() api.Formula {
	f := api.Formula{Vars: 1 + s.of(Most)}
	clauses, most := s.of(24), 1+s.of(4)
	for range clauses {
		f.Clauses = append(f.Clauses, s.clause(f.Vars, most))
	}
	return f
}

// clause is one of some literals, seldom of none.
func (s *source) clause(vars, most int) api.Clause {
	var c api.Clause
	n := s.next()
	if n == 255 {
		return c
	}
	for range 1 + n%most {
		n := s.next()
		l := api.Lit(1 + n/2%vars)
		if n%2 == 1 {
			l = -l
		}
		c = append(c, l)
	}
	return c
}

// change does one thing to a base, if that may be done.
func (s *source) change(b *base.Base) {
	kind, l := s.of(8), b.Entries()
	if len(l) == 0 {
		s.data = nil
		return
	}
	c, d := l[s.of(len(l))], l[s.of(len(l))]
	red := s.of(2) == 0
	switch kind {
	case 0:
		b.Add(append(c.Lits, s.clause(b.Vars(), 2)...), []int64{c.ID}, red)
	case 1, 2, 3:
		resolve(b, c, d, red)
	case 4:
		b.Keep(c.ID)
	case 5:
		b.Delete(c.ID)
	case 6:
		b.Drop(c.ID, d.ID)
	case 7:
		b.Weaken(c.ID, c.Lits[:min(1, len(c.Lits))])
	}
}

// resolve adds what two clauses are resolved to, by the first literal by which they can be.
func resolve(b *base.Base, c, d api.Entry, red bool) {
	for _, l := range c.Lits {
		if l < 0 {
			continue
		}
		if lits, _, e := cnf.Resolve(c.Lits, d.Lits, cnf.Var(l)); e == api.OK {
			b.Add(lits, []int64{c.ID, d.ID}, red)
			return
		}
	}
}

// Full is a base of a formula that has a variable, with room for so many steps alone.
func Full(f api.Formula, room int) *base.Base {
	b, e := base.New(f)
	if e != api.OK {
		return nil
	}
	for left := api.MaxSteps - room; left > 0; left-- {
		id, _ := b.Add(api.Clause{1, -1}, nil, true)
		if left--; left > 0 {
			b.Delete(id)
		}
	}
	return b
}

// Taken tells whether the checker takes a base's steps as a proof of its formula, and sees what is live stand behind them.
func Taken(f api.Formula, b *base.Base) bool {
	c, e := check.New(f)
	if e != api.OK {
		return false
	}
	for _, s := range b.Steps() {
		if c.Step(s) != api.OK {
			return false
		}
	}
	entries := b.Entries()
	for _, x := range entries {
		if lits, stands := c.Get(x.ID); !stands || !slices.Equal(lits, x.Lits) {
			return false
		}
	}
	_, empty := b.Empty()
	return len(c.Live()) == len(entries) && (c.Done() || !empty)
}

// Models tells of each row of values, for a base of few variables, whether it is a model of its live clauses: of all, or of those that are not redundant.
func Models(b *base.Base, red bool) []bool {
	f := api.Formula{Vars: b.Vars()}
	for _, x := range b.Entries() {
		if red || !x.Red {
			f.Clauses = append(f.Clauses, x.Lits)
		}
	}
	all := make([]bool, 1<<f.Vars)
	for n := range all {
		all[n] = cnf.Holds(f, Model(n, f.Vars))
	}
	return all
}

// Model is the row of values that has a number: the first variable's value is its least bit.
func Model(n, vars int) api.Model {
	m := make(api.Model, vars)
	for v := range m {
		m[v] = n>>v&1 == 1
	}
	return m
}
