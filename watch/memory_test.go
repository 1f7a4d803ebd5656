package watch

import (
	"fmt"
	"maps"
	"math"
	"slices"
	"testing"

	"threshing/api"
	"threshing/arena"
	"threshing/trail"
)

// kept is all that a watcher keeps, its arena's clauses and its trail, told.
func kept(p *pair) string {
	s := fmt.Sprintln(p.w.lists, p.w.again, p.w.open, p.w.ticks, slices.Sorted(maps.Keys(p.w.attached)), told(p.x))
	for _, r := range p.a.Refs() {
		lbd, used := p.a.LBD(r)
		s += fmt.Sprintln(r, p.a.Lits(r), p.a.ID(r), p.a.Red(r), lbd, used)
	}
	words, waste := p.a.Words()
	return s + fmt.Sprintln(words, waste)
}

// mixed is a watcher with clauses that are free, unit and not looked at yet, true and false: -1 2 at 0, -2 3 at 6, 4 5 6 at 12, -3 -7 at 19, and at 25 one that is dead.
func mixed(t *testing.T) *pair {
	t.Helper()
	p := newPair(t, 9, lits(-1, 2), lits(-2, 3), lits(4, 5, 6), lits(-3, -7), lits(8, 9))
	p.kill(25)
	p.decide(1)
	p.decide(7)
	_, bad := p.propagate()
	p.like("false", bad, true)
	p.decide(-4)
	p.add(4, 8)
	return p
}

// Each call that answers an error changes nothing: neither the watcher, nor the arena, nor the trail.
func TestErrorChangesNothing(t *testing.T) {
	p := mixed(t)
	wrong := map[arena.Ref]api.Errno{
		math.MinInt: api.ErrRef, -1: api.ErrRef, 1: api.ErrRef, 25: api.ErrRef, math.MaxInt: api.ErrRef,
		0: api.ErrTwice, 6: api.ErrTwice, 12: api.ErrTwice, 19: api.ErrTwice,
		p.lay(): api.ErrArg, p.lay(5): api.ErrArg, p.lay(5, 5): api.ErrArg, p.lay(5, 6, -5): api.ErrArg,
		p.lay(5, 10): api.ErrLit, p.lay(-10, 1, 2): api.ErrLit,
		p.lay(-1, -7): api.ErrState, p.lay(-7, 5, -1): api.ErrState, p.lay(4, -7, -1): api.ErrState, p.lay(-1, 7): api.ErrState, p.lay(-1, -7, -4): api.ErrState,
	}
	was := kept(p)
	for range 2 {
		for r, want := range wrong {
			if l, e := p.w.Attach(r); l != 0 || e != want {
				t.Errorf("Attach(%d): %d %d, want %d", r, l, e, want)
			}
			p.like("kept", kept(p), was)
		}
		// The first reasons are told, another one is not; or it has no place.
		for _, l := range [][]arena.Move{nil, {{From: 0, To: 50}}, {{From: 0, To: 50}, {From: 6, To: 57}, {From: 19, To: 1}}, {{From: -1, To: 3}}} {
			if e := p.w.Moved(l); e != api.ErrArg {
				t.Errorf("Moved(%v): %d", l, e)
			}
			p.like("kept", kept(p), was)
		}
	}
}

// What is only asked changes nothing; neither does a Propagate that has nothing to do.
func TestAskingChangesNothing(t *testing.T) {
	p := newPair(t, 5, lits(-1, 2), lits(2, 3, 4))
	p.decide(1)
	p.propagate()
	was := kept(p)
	for range 3 {
		p.w.Count()
		p.w.Ticks()
		p.w.Propagate()
		p.like("kept", kept(p), was)
	}
}

// What is handed to Moved is only read, what lies behind its length included, and not kept.
func TestMovedReads(t *testing.T) {
	p := newPair(t, 5, lits(3, 4), lits(-1, 2), lits(-2, 5))
	p.kill(0)
	p.decide(1)
	p.propagate()
	l := p.collect()
	p.rename(l)
	behind := append(slices.Clone(l), arena.Move{From: 77, To: 78}, arena.Move{From: 6, To: 79})
	was := slices.Clone(behind)
	p.like("Moved", int(p.w.Moved(behind[:2])), 0)
	p.attached, p.dead = map[arena.Ref]struct{}{0: {}, 6: {}}, 0
	if !slices.Equal(behind, was) {
		t.Fatalf("written over: %v", behind)
	}
	for i := range behind {
		behind[i] = arena.Move{From: 99, To: 99}
	}
	p.like("reasons", fmt.Sprint(p.x.Reason(2), p.x.Reason(5)), "0 6")
	p.agree()
	p.back(0)
	p.decide(-5)
	p.propagate()
	p.like("on", p.x.Lits(), lits(-5, -2, -1))
	if !slices.Equal(behind, slices.Repeat([]arena.Move{{From: 99, To: 99}}, 4)) {
		t.Errorf("written over: %v", behind)
	}
}

// A clause's id, whether it is redundant, its LBD and use stay as they are, whatever becomes of its literals' order; so do clauses that are not attached.
func TestClausesStay(t *testing.T) {
	p := newPair(t, 6)
	r := p.add(-1, -2, -3, 4)
	q := p.add(5, -1, 6)
	free := p.lay(6, 5, 4)
	p.a.Mark(r, 7, 8)
	p.a.Mark(q, 65535, 65535)
	about := func(r arena.Ref) string {
		lbd, used := p.a.LBD(r)
		return fmt.Sprint(p.a.ID(r), p.a.Red(r), lbd, used, p.a.Len(r))
	}
	for _, l := range lits(1, -6, 2, 3) {
		p.decide(l)
		p.propagate()
	}
	p.like("all", p.x.Lits(), lits(1, -6, 5, 2, 3, 4))
	p.like("what they are", fmt.Sprintln(about(r), about(q), about(free), p.a.Lits(free)), fmt.Sprintln("1 false 7 8 4", "2 true 65535 65535 3", "3 false 3 0 3", lits(6, 5, 4)))
	words, waste := p.a.Words()
	p.like("words", fmt.Sprint(words, waste), "22 0")
}

// No watcher has anything of another.
func TestTwoWatchers(t *testing.T) {
	p, q := mixed(t), mixed(t)
	was := kept(q)
	p.back(0)
	p.propagate()
	p.kill(6)
	p.sweep()
	p.decide(-3)
	p.propagate()
	p.like("kept", kept(q), was)
	q.back(0)
	q.decide(2)
	q.propagate()
	q.like("the other", q.x.Lits(), lits(2, 3, -7))
	n, e := New(arena.New(10), mustTrail(t, 9))
	if e != api.OK || n.Count() != 0 || n.Ticks() != 0 {
		t.Error(e)
	}
}

func mustTrail(t *testing.T, vars int) *trail.Trail {
	t.Helper()
	x, e := trail.New(vars)
	if e != api.OK {
		t.Fatal(e)
	}
	return x
}
