package unit

import (
	"slices"
	"testing"

	"threshing/api"
	"threshing/base"
)

// What the chapter says, over and over again by all live clauses, without anything kept between.

// plainTrail propagates as the chapter's words say.
func plainTrail(b *base.Base, first api.Clause, without int64) Trail {
	var t Trail
	for _, l := range first {
		if !slices.Contains(t.True, l) {
			t.True = append(t.True, l)
		}
	}
	entries := b.Entries()
	for {
		next := slices.IndexFunc(entries, func(c api.Entry) bool {
			open, holds := plainOpen(c.Lits, t.True)
			return c.ID != without && !holds && len(open) <= 1
		})
		if next < 0 {
			return t
		}
		open, _ := plainOpen(entries[next].Lits, t.True)
		if len(open) == 0 {
			t.Conflict = entries[next].ID
			return t
		}
		t.True = append(t.True, open[0])
		t.Reasons = append(t.Reasons, entries[next].ID)
	}
}

// plainOpen is the literals of a clause, as a set, that have no value, and whether one is true.
func plainOpen(c, truths api.Clause) (open api.Clause, holds bool) {
	for _, l := range c {
		switch {
		case slices.Contains(truths, l):
			holds = true
		case !slices.Contains(truths, -l) && !slices.Contains(open, l):
			open = append(open, l)
		}
	}
	return open, holds
}

// plainUpto is a trail's hints up to a literal.
func plainUpto(t Trail, first int, l api.Lit) []int64 {
	place := slices.Index(t.True, l)
	if place < first {
		return nil
	}
	return t.Reasons[:place-first+1]
}

// plainUnits does what the chapter's words say, of a base that has room for it.
func plainUnits(t *testing.T, b *base.Base, limit int) int {
	t.Helper()
	done, root := 0, plainTrail(b, nil, 0)
	if limit == 0 {
		return 0
	}
	if root.Conflict != 0 {
		if _, empty := b.Empty(); empty {
			return 0
		}
		mustAdd(t, b, nil, append(slices.Clone(root.Reasons), root.Conflict), false)
		return 1
	}
	entries := b.Entries()
	for _, l := range root.True {
		if done < limit && plainUnit(b, l) == 0 {
			mustAdd(t, b, api.Clause{l}, plainUpto(root, 0, l), false)
			done++
		}
	}
	for _, c := range entries {
		if done < limit && plainLook(t, b, root.True, c) {
			done++
		}
	}
	return done
}

// plainUnit is the unit of a literal, or 0.
func plainUnit(b *base.Base, l api.Lit) int64 {
	for _, c := range b.Entries() {
		if slices.Contains(c.Lits, l) && !slices.ContainsFunc(c.Lits, func(k api.Lit) bool { return k != l }) {
			return c.ID
		}
	}
	return 0
}

// plainLook does what is to be done with one clause, and tells whether there was something.
func plainLook(t *testing.T, b *base.Base, root api.Clause, c api.Entry) bool {
	t.Helper()
	for _, l := range c.Lits {
		if plainUnit(b, l) == c.ID {
			return false
		}
	}
	for _, l := range c.Lits {
		if slices.Contains(root, l) {
			mustDrop(t, b, c.ID, plainUnit(b, l))
			return true
		}
	}
	var left api.Clause
	var hints []int64
	for _, l := range c.Lits {
		if !slices.Contains(root, -l) {
			left = append(left, l)
		} else if by := plainUnit(b, -l); !slices.Contains(hints, by) {
			hints = append(hints, by)
		}
	}
	if len(left) == len(c.Lits) {
		return false
	}
	mustDrop(t, b, c.ID, mustAdd(t, b, left, append(hints, c.ID), c.Red))
	return true
}

func mustAdd(t *testing.T, b *base.Base, c api.Clause, hints []int64, red bool) int64 {
	t.Helper()
	id, e := b.Add(c, hints, red)
	if e != api.OK {
		t.Fatalf("Add(%v, %v): %d", c, hints, e)
	}
	return id
}

func mustDrop(t *testing.T, b *base.Base, id, by int64) {
	t.Helper()
	if e := b.Drop(id, by); e != api.OK {
		t.Fatalf("Drop(%d, %d): %d", id, by, e)
	}
}
