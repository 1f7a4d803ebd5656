// Package follow tells what follows from literals that are taken as true, by the clauses of a base: the propagating of layer 20 (see shared/doc/20-unit.md), over clauses that are laid out once, and then asked again and again.
package follow

import (
	"container/heap"

	"threshing/api"
	"threshing/base"
	"threshing/cnf"
)

// Clauses are those of a base, by the literals that they have.
type Clauses struct {
	where  map[api.Lit][]*clause // rising by ids
	short  []*clause             // those that have at most one literal, as a set; rising by ids
	truths []api.Lit             // by variable, which of its literals is true; noughts alone between calls
}

// clause is a live one.
type clause struct {
	id   int64
	lits api.Clause
	left int // how many of its literals, as a set, are not false
}

// New lays out what is live in a base. What is done to the base behind that is not seen.
func New(b *base.Base) *Clauses {
	c := &Clauses{where: map[api.Lit][]*clause{}, truths: make([]api.Lit, b.Vars()+1)}
	for _, x := range b.Entries() {
		c.enter(&clause{id: x.ID, lits: x.Lits})
	}
	return c
}

// enter puts a clause, whose id is above all others, where its literals stand.
func (c *Clauses) enter(x *clause) {
	for _, l := range x.lits {
		row := c.where[l]
		if n := len(row); n > 0 && row[n-1] == x {
			continue // a literal that stands twice is one of the set
		}
		c.where[l] = append(row, x)
		x.left++
	}
	if x.left <= 1 {
		c.short = append(c.short, x)
	}
}

// From propagates from the first ones, none of which is the negation of another, without the clause of the id without: what is true, the first ones ahead; the ids of the reasons of the others; and the conflict, or 0.
func (c *Clauses) From(first api.Clause, without int64) (truths api.Clause, reasons []int64, conflict int64) {
	var look waiting
	for _, x := range c.short {
		if x.id != without {
			look = append(look, x) // they rise, so this is a heap
		}
	}
	holds := func(l api.Lit) bool { return c.truths[cnf.Var(l)] == l }
	take := func(l api.Lit) {
		c.truths[cnf.Var(l)] = l
		truths = append(truths, l)
		for _, x := range c.where[-l] {
			x.left--
			if x.left == 1 && x.id != without {
				heap.Push(&look, x)
			}
		}
	}
	defer func() { c.forget(truths) }()
	for _, l := range first {
		if !holds(l) {
			take(l)
		}
	}
	for len(look) > 0 {
		x := heap.Pop(&look).(*clause)
		l, open := x.open(holds)
		switch {
		case !open:
			return truths, reasons, x.id
		case !holds(l):
			take(l)
			reasons = append(reasons, x.id)
		}
	}
	return truths, reasons, 0
}

// open is the first literal of a clause that is not false, if there is one.
func (x *clause) open(holds func(api.Lit) bool) (api.Lit, bool) {
	for _, l := range x.lits {
		if !holds(-l) {
			return l, true
		}
	}
	return 0, false
}

// forget takes back what was true.
func (c *Clauses) forget(truths api.Clause) {
	for _, l := range truths {
		c.truths[cnf.Var(l)] = 0
		for _, x := range c.where[-l] {
			x.left++
		}
	}
}

// waiting is clauses that are to be looked at, as container/heap keeps them: that of the least id comes first.
type waiting []*clause

func (w waiting) Len() int           { return len(w) }
func (w waiting) Less(i, j int) bool { return w[i].id < w[j].id }
func (w waiting) Swap(i, j int)      { w[i], w[j] = w[j], w[i] }

// Push is container/heap's.
func (w *waiting) Push(x any) { *w = append(*w, x.(*clause)) }

// Pop is container/heap's.
func (w *waiting) Pop() any {
	n := len(*w) - 1
	x := (*w)[n]
	*w = (*w)[:n]
	return x
}
