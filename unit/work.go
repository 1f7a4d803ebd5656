package unit

import (
	"threshing/api"
	"threshing/base"
)

// work is what Units does to a base, and how many steps of it were done.
type work struct {
	b     *base.Base
	limit int
	done  int
	units map[api.Lit]int64 // the unit of each literal that has one
}

// refute adds the empty clause, unless there is one.
func (w *work) refute(hints func() []int64) api.Errno {
	if _, empty := w.b.Empty(); empty {
		return api.OK
	}
	if _, e := w.b.Add(nil, hints(), false); e != api.OK {
		return e
	}
	w.done++
	return api.OK
}

// settle does what the root's literals ask: each has a unit then, and stands in no other clause, nor does its negation.
func (w *work) settle(root api.Clause, upto func(api.Lit) []int64) api.Errno {
	entries := w.b.Entries()
	w.find(entries)
	for _, l := range root {
		if w.done == w.limit {
			return api.OK
		}
		if w.units[l] != 0 {
			continue
		}
		id, e := w.b.Add(api.Clause{l}, upto(l), false)
		if e != api.OK {
			return e
		}
		w.units[l] = id
		w.done++
	}
	for _, c := range entries {
		if w.done == w.limit {
			return api.OK
		}
		did, e := w.look(c)
		if e != api.OK {
			return e
		}
		if did {
			w.done++
		}
	}
	return api.OK
}

// find looks for the unit of each literal: the first one, as ids rise.
func (w *work) find(entries []api.Entry) {
	w.units = map[api.Lit]int64{}
	for _, c := range entries {
		if !single(c.Lits) {
			continue
		}
		if l := c.Lits[0]; w.units[l] == 0 {
			w.units[l] = c.ID
		}
	}
}

// single tells whether a clause has one literal, as a set.
func single(c api.Clause) bool {
	for _, l := range c {
		if l != c[0] {
			return false
		}
	}
	return len(c) > 0
}

// look drops a clause that has a literal of the root, and makes one shorter that has the negation of one; it tells whether it did.
func (w *work) look(c api.Entry) (bool, api.Errno) {
	if single(c.Lits) && w.units[c.Lits[0]] == c.ID {
		return false, api.OK
	}
	for _, l := range c.Lits {
		if by := w.units[l]; by != 0 {
			return true, w.b.Drop(c.ID, by)
		}
	}
	lits, hints := w.left(c)
	if len(hints) == 0 {
		return false, api.OK
	}
	by, e := w.b.Add(lits, append(hints, c.ID), c.Red)
	if e != api.OK {
		return false, e
	}
	return true, w.b.Drop(c.ID, by)
}

// left is the literals of a clause, none of which is true, that are not false, and the units by which the others are.
func (w *work) left(c api.Entry) (api.Clause, []int64) {
	var lits api.Clause
	var hints []int64
	met := map[int64]int{}
	for _, l := range c.Lits {
		by := w.units[-l]
		if by == 0 {
			lits = append(lits, l)
			continue
		}
		if met[by] == 0 {
			hints = append(hints, by)
		}
		met[by]++
	}
	return lits, hints
}
