package base

import (
	"math"
	"slices"
	"testing"

	"threshing/api"
)

// someIDs is ids of which at most those from 1 to 9 are a clause's.
func someIDs() []int64 {
	return []int64{math.MinInt64, -api.MaxID, -1, 0, 1, 2, 3, 4, 5, 6, 7, 8, 9, api.MaxID, math.MaxInt64}
}

// isRed asks whether a live clause is redundant.
func isRed(t *testing.T, b *Base, id int64) bool {
	t.Helper()
	c, ok := b.Get(id)
	if !ok {
		t.Fatalf("%d is not live", id)
	}
	return c.Red
}

// P7.3: Keep, of redundant clauses and of others, and of none.
func TestKeep(t *testing.T) {
	b, _ := answers(t, square(),
		wanted{keepCall(5), 0, api.ErrNone},
		wanted{addCall(true, lits(2), 1, 2), 5, api.OK},
		wanted{addCall(true, lits(2), 1, 2), 6, api.OK},
		wanted{keepCall(5), 0, api.OK},
		wanted{keepCall(5), 0, api.OK},
		wanted{keepCall(1), 0, api.OK},
		wanted{deleteCall(5), 0, api.ErrState},
		wanted{deleteCall(6), 0, api.OK},
		wanted{keepCall(6), 0, api.ErrNone},
		wanted{keepCall(0), 0, api.ErrNone},
		wanted{keepCall(-1), 0, api.ErrNone},
		wanted{keepCall(math.MinInt64), 0, api.ErrNone},
		wanted{keepCall(math.MaxInt64), 0, api.ErrNone},
	)
	if isRed(t, b, 5) {
		t.Error("5 is redundant")
	}
	if n := len(b.Steps()); n != 3 {
		t.Errorf("%d steps: Keep is none", n)
	}
	want := []api.Rule{
		{Kind: api.RAdd, ID: 5, Red: true, Lits: lits(2), Hints: []int64{1, 2}},
		{Kind: api.RAdd, ID: 6, Red: true, Lits: lits(2), Hints: []int64{1, 2}},
		{Kind: api.RKeep, ID: 5}, {Kind: api.RKeep, ID: 5}, {Kind: api.RKeep, ID: 1}, {Kind: api.RDelete, ID: 6},
	}
	if got := b.Rules(); !slices.EqualFunc(got, want, sameRule) {
		t.Error(got)
	}
}

// P7.3: Delete, of redundant clauses alone.
func TestDelete(t *testing.T) {
	b, _ := answers(t, of(lits(1), nil, lits(2, -2)),
		wanted{deleteCall(4), 0, api.ErrNone},
		wanted{addCall(false, lits(1, 3), 1), 4, api.OK},
		wanted{addCall(true, lits(1, 3), 4), 5, api.OK},
		wanted{deleteCall(1), 0, api.ErrState},
		wanted{deleteCall(2), 0, api.ErrState},
		wanted{deleteCall(3), 0, api.ErrState},
		wanted{deleteCall(4), 0, api.ErrState},
		wanted{deleteCall(5), 0, api.OK},
		wanted{deleteCall(5), 0, api.ErrNone},
		wanted{deleteCall(0), 0, api.ErrNone},
		wanted{deleteCall(-5), 0, api.ErrNone},
		wanted{deleteCall(math.MinInt64), 0, api.ErrNone},
		wanted{deleteCall(math.MaxInt64), 0, api.ErrNone},
		wanted{addCall(true, nil, 2), 6, api.OK},
		wanted{addCall(true, nil, 6), 7, api.OK},
		wanted{deleteCall(6), 0, api.OK},
	)
	want := []api.Step{{Kind: api.SDel, ID: 5, Hints: []int64{5}}, {Kind: api.SDel, ID: 7, Hints: []int64{6}}}
	got := b.Steps()
	if !sameStep(got[2], want[0]) || !sameStep(got[5], want[1]) || len(got) != 6 {
		t.Error(got)
	}
}

// P7.3: which error of Drop comes first. (That of the limit is asked in TestLimit.)
func TestDropFirstError(t *testing.T) {
	each(t, of(lits(1, 2), lits(1), lits(3, 1, -3), lits(1, 2, 1), nil),
		wanted{dropCall(6, 6), 0, api.ErrNone},
		wanted{dropCall(6, 0), 0, api.ErrNone},
		wanted{dropCall(6, 1), 0, api.ErrNone},
		wanted{dropCall(1, 6), 0, api.ErrNone},
		wanted{dropCall(1, -1), 0, api.ErrNone},
		wanted{dropCall(3, -3), 0, api.ErrNone},
		wanted{dropCall(3, math.MinInt64), 0, api.ErrNone},
		wanted{dropCall(0, 0), 0, api.ErrNone},
		wanted{dropCall(0, 1), 0, api.ErrNone},
		wanted{dropCall(-1, -1), 0, api.ErrNone},
		// By itself, also if it has a literal with its negation, or none.
		wanted{dropCall(1, 1), 0, api.ErrArg},
		wanted{dropCall(3, 3), 0, api.ErrArg},
		wanted{dropCall(5, 5), 0, api.ErrArg},
		// By 0.
		wanted{dropCall(1, 0), 0, api.ErrArg},
		wanted{dropCall(5, 0), 0, api.ErrArg},
		wanted{dropCall(3, 0), 0, api.OK},
		// By another.
		wanted{dropCall(2, 1), 0, api.ErrArg},
		wanted{dropCall(3, 1), 0, api.ErrArg},
		wanted{dropCall(5, 2), 0, api.ErrArg},
		wanted{dropCall(1, 2), 0, api.OK},
		wanted{dropCall(3, 2), 0, api.OK},
		wanted{dropCall(1, 4), 0, api.OK},
		wanted{dropCall(4, 1), 0, api.OK},
		wanted{dropCall(4, 5), 0, api.OK},
	)
}

// P7.3: whether the clause that stays is redundant behind a Drop.
func TestDropKeeps(t *testing.T) {
	for _, x := range []struct{ idRed, byRed, behind bool }{{false, false, false}, {false, true, false}, {true, false, false}, {true, true, true}} {
		b, _ := answers(t, of(lits(1)),
			wanted{addCall(x.idRed, lits(1, 2), 1), 2, api.OK},
			wanted{addCall(x.byRed, lits(1), 1), 3, api.OK},
			wanted{addCall(true, lits(1, 3), 1), 4, api.OK},
			wanted{dropCall(2, 3), 0, api.OK},
		)
		if got := isRed(t, b, 3); got != x.behind {
			t.Errorf("%v: redundant: %t", x, got)
		}
		if !isRed(t, b, 4) || isRed(t, b, 1) {
			t.Errorf("%v: another one was changed", x)
		}
		rules, steps := b.Rules(), b.Steps()
		if want := (api.Rule{Kind: api.RDrop, ID: 2, By: 3}); len(rules) != 4 || !sameRule(rules[3], want) {
			t.Errorf("Rules: %v", rules)
		}
		if want := (api.Step{Kind: api.SDel, ID: 4, Hints: []int64{2}}); len(steps) != 4 || !sameStep(steps[3], want) {
			t.Errorf("Steps: %v", steps)
		}
	}
	// By 0, of a redundant one and of another.
	b, _ := answers(t, of(lits(1, 2, -1)),
		wanted{addCall(true, lits(2, -2)), 2, api.OK},
		wanted{dropCall(1, 0), 0, api.OK},
		wanted{dropCall(2, 0), 0, api.OK},
	)
	if rules := b.Rules(); len(rules) != 3 || !sameRule(rules[1], api.Rule{Kind: api.RDrop, ID: 1}) || len(b.Entries()) != 0 {
		t.Error(rules, b.Entries())
	}
}

// P7.3: an error of Drop keeps nothing either.
func TestDropErrorKeeps(t *testing.T) {
	b, _ := answers(t, of(lits(1), lits(1, 2), lits(2)),
		wanted{addCall(true, lits(1, 3), 1), 4, api.OK},
		wanted{dropCall(2, 4), 0, api.ErrArg},
		wanted{dropCall(9, 4), 0, api.ErrNone},
		wanted{dropCall(4, 4), 0, api.ErrArg},
	)
	if !isRed(t, b, 4) {
		t.Error("4 was kept")
	}
}

// P7.3: clauses that stand several times are dropped by one another, till one is left.
func TestDropSame(t *testing.T) {
	b, _ := answers(t, of(lits(1, 2), lits(2, 1), lits(1, 2), lits(1, 2, 2)),
		wanted{dropCall(1, 4), 0, api.OK},
		wanted{dropCall(4, 3), 0, api.OK},
		wanted{dropCall(3, 4), 0, api.ErrNone},
		wanted{dropCall(3, 2), 0, api.OK},
		wanted{dropCall(2, 2), 0, api.ErrArg},
		wanted{dropCall(2, 3), 0, api.ErrNone},
	)
	if got := b.Entries(); len(got) != 1 || got[0].ID != 2 {
		t.Error(got)
	}
}

// P7.3: all pairs, of redundant clauses and of others.
func TestDropAll(t *testing.T) {
	f := of(lits(1, 2), lits(2, 1, 2), lits(1), lits(1, -1), lits(3, 1, 2), nil)
	for red := range 8 {
		for _, id := range someIDs() {
			for _, by := range someIDs() {
				b, p := made(t, f), newPlain(f)
				both(t, b, p, addCall(red&1 == 1, lits(2, 1), 1))
				both(t, b, p, addCall(red&2 == 2, lits(1), 3))
				both(t, b, p, addCall(red&4 == 4, lits(2, 1, -1, 2)))
				both(t, b, p, dropCall(id, by))
				same(t, b, p)
			}
		}
	}
}

// P7.4: which error of Weaken comes first. (That of the limit is asked in TestLimit.)
func TestWeakenFirstError(t *testing.T) {
	f := of(lits(1, 2), nil, lits(3, -3), lits(4, 4))
	each(t, f,
		wanted{weakenCall(5, 0), 0, api.ErrNone},
		wanted{weakenCall(0, 1), 0, api.ErrNone},
		wanted{weakenCall(-1, 1), 0, api.ErrNone},
		wanted{weakenCall(math.MinInt64), 0, api.ErrNone},
		wanted{weakenCall(math.MaxInt64), 0, api.ErrNone},
		wanted{weakenCall(1, 0), 0, api.ErrLit},
		wanted{weakenCall(1, 10), 0, api.ErrLit},
		wanted{weakenCall(1, 1, -10), 0, api.ErrLit},
		wanted{weakenCall(1, 3, -3, 0), 0, api.ErrLit},
		wanted{weakenCall(1, 1, math.MinInt32), 0, api.ErrLit},
		wanted{weakenCall(1, 1, math.MaxInt32), 0, api.ErrLit},
		wanted{weakenCall(1), 0, api.ErrArg},
		wanted{weakenCall(1, 3), 0, api.ErrArg},
		wanted{weakenCall(1, -1), 0, api.ErrArg},
		wanted{weakenCall(1, 3, 1), 0, api.ErrArg},
		wanted{weakenCall(1, -2, 1), 0, api.ErrArg},
		wanted{weakenCall(1, 1, -1), 0, api.ErrArg},
		wanted{weakenCall(1, 1, 9, 2, -9), 0, api.ErrArg},
		wanted{weakenCall(1, 2, 5, 3, -5, 1), 0, api.ErrArg},
		wanted{weakenCall(2), 0, api.ErrArg},
		wanted{weakenCall(2, 1), 0, api.ErrArg},
		wanted{weakenCall(3, 3, -3), 0, api.ErrArg},
		wanted{weakenCall(1, 1), 0, api.OK},
		wanted{weakenCall(1, 2), 0, api.OK},
		wanted{weakenCall(1, 2, -1, 9, -9+1), 0, api.OK},
		wanted{weakenCall(1, 1, 9, -8, 9, 1), 0, api.OK},
		wanted{weakenCall(3, -3), 0, api.OK},
		wanted{weakenCall(4, 4, 4), 0, api.OK},
	)
	red := wanted{addCall(true, lits(2, 1), 1), 5, api.OK}
	for _, w := range []api.Clause{nil, {0}, {10}, {1}, {3}, {1, -1}} {
		answers(t, f, red, wanted{weakenCall(5, w...), 0, api.ErrState})
	}
	answers(t, f, red, wanted{keepCall(5), 0, api.OK}, wanted{weakenCall(5, 1), 0, api.OK}, wanted{weakenCall(5, 1), 0, api.ErrNone})
}

// P7.4: literals at the bound of the variables and one past it.
func TestWeakenBound(t *testing.T) {
	each(t, api.Formula{Vars: api.MaxVar, Clauses: []api.Clause{{1, -api.MaxVar}}},
		wanted{weakenCall(1, -api.MaxVar), 0, api.OK},
		wanted{weakenCall(1, 1, api.MaxVar), 0, api.OK},
		wanted{weakenCall(1, 1, api.MaxVar+1), 0, api.ErrLit},
		wanted{weakenCall(1, 1, -api.MaxVar-1), 0, api.ErrLit},
	)
}

// P7.4: what stands on the stack, and what is noted.
func TestWeaken(t *testing.T) {
	b, _ := answers(t, of(lits(3, 1, 3), lits(1), lits(1)),
		wanted{weakenCall(2, 1, -4, 1), 0, api.OK},
		wanted{addCall(false, lits(5, 1), 3), 4, api.OK},
		wanted{weakenCall(1, 3, -1), 0, api.OK},
		wanted{weakenCall(4, 5), 0, api.OK},
		wanted{weakenCall(2, 1), 0, api.ErrNone},
	)
	stack := []api.Witness{{Lits: lits(1, -4, 1), Clause: lits(1)}, {Lits: lits(3, -1), Clause: lits(3, 1, 3)}, {Lits: lits(5), Clause: lits(5, 1)}}
	if got := b.Stack(); !slices.EqualFunc(got, stack, sameWitness) {
		t.Errorf("Stack: %v", got)
	}
	steps := []api.Step{
		{Kind: api.SDel, ID: 3, Hints: []int64{2}}, {Kind: api.SAdd, ID: 4, Lits: lits(5, 1), Hints: []int64{3}},
		{Kind: api.SDel, ID: 4, Hints: []int64{1}}, {Kind: api.SDel, ID: 4, Hints: []int64{4}},
	}
	if got := b.Steps(); !slices.EqualFunc(got, steps, sameStep) {
		t.Errorf("Steps: %v", got)
	}
	rules := []api.Rule{
		{Kind: api.RWeaken, ID: 2, Lits: lits(1, -4, 1)}, {Kind: api.RAdd, ID: 4, Lits: lits(5, 1), Hints: []int64{3}},
		{Kind: api.RWeaken, ID: 1, Lits: lits(3, -1)}, {Kind: api.RWeaken, ID: 4, Lits: lits(5)},
	}
	if got := b.Rules(); !slices.EqualFunc(got, rules, sameRule) {
		t.Errorf("Rules: %v", got)
	}
}

// P7.4: all short witnesses of some clauses.
func TestWeakenAll(t *testing.T) {
	f := api.Formula{Vars: 2, Clauses: []api.Clause{{1, 2}, {-1}, {2, -2}, {1, 1}, {}}}
	found := map[api.Errno]int{}
	for _, w := range rowsUpTo[api.Lit](3, -3, -2, -1, 0, 1, 2, 3) {
		b, p := made(t, f), newPlain(f)
		both(t, b, p, addCall(true, lits(2, 1), 1))
		for id := int64(0); id < 8; id++ {
			found[both(t, b, p, weakenCall(id, w...))]++
		}
		same(t, b, p)
	}
	for _, e := range []api.Errno{api.OK, api.ErrNone, api.ErrState, api.ErrLit, api.ErrArg} {
		if found[e] < 40 {
			t.Errorf("error %d was told %d times", e, found[e])
		}
	}
}

// The limit of steps and one past it, come to by as many calls. Keep is no step.
func TestLimit(t *testing.T) {
	b := made(t, of(lits(1), lits(1, 2), lits(3, -3), lits(1, 4)))
	b.Add(lits(1, 5), []int64{1}, true)
	for n := 1; n < api.MaxSteps-1; n += 2 {
		id, e := b.Add(lits(1), []int64{1}, true)
		if d := b.Delete(id); e != api.OK || d != api.OK {
			t.Fatalf("%d: %d %d", n, e, d)
		}
	}
	if n := len(b.Steps()); n != api.MaxSteps-1 {
		t.Fatalf("%d steps", n)
	}
	if id, e := b.Add(lits(1), []int64{1}, true); id != b.Last() || e != api.OK {
		t.Fatalf("the last one: %d %d", id, e)
	}
	pastLimit(t, b)
	if n := len(b.Steps()); n != api.MaxSteps {
		t.Errorf("%d steps", n)
	}
	if n := len(b.Rules()); n != api.MaxSteps+2 {
		t.Errorf("%d rules", n)
	}
}

// Whichever call it is that has room for a step yet, it is done, and none behind it; so with a copy. (The steps ahead are but counted here.)
func TestLastStep(t *testing.T) {
	calls := []call{addCall(false, lits(1), 1), deleteCall(5), dropCall(2, 1), dropCall(3, 0), weakenCall(2, 2)}
	for _, c := range calls {
		b := made(t, of(lits(1), lits(1, 2), lits(3, -3), lits(1, 4)))
		b.Add(lits(1, 5), []int64{1}, true)
		b.steps = api.MaxSteps - 1
		other := b.Copy()
		for _, x := range []*Base{b, other} {
			x.Keep(1)
			if _, e := c.onBase(x); e != api.OK {
				t.Errorf("%v: %d", c, e)
			}
			for _, d := range []call{addCall(false, lits(1), 1), deleteCall(5), dropCall(2, 1), weakenCall(4, 4)} {
				if _, e := d.onBase(x); e != api.ErrLimit && e != api.ErrNone {
					t.Errorf("%v behind %v: %d", d, c, e)
				}
			}
		}
	}
}

// pastLimit asks what a base answers that has room for no step.
func pastLimit(t *testing.T, b *Base) {
	t.Helper()
	before, last := b.Entries(), b.Last()
	for _, x := range []wanted{
		{addCall(true, lits(1), 1), 0, api.ErrLimit},
		{addCall(true, lits(0), 99), 0, api.ErrLimit},
		{addCall(true, lits(10)), 0, api.ErrLimit},
		{addCall(true, nil, 99), 0, api.ErrLimit},
		{addCall(true, nil), 0, api.ErrLimit},
		{deleteCall(5), 0, api.ErrLimit},
		{deleteCall(1), 0, api.ErrState},
		{deleteCall(6), 0, api.ErrNone},
		{dropCall(2, 1), 0, api.ErrLimit},
		{dropCall(2, 5), 0, api.ErrArg},
		{dropCall(5, 1), 0, api.ErrLimit},
		{dropCall(3, 0), 0, api.ErrLimit},
		{dropCall(2, 0), 0, api.ErrArg},
		{dropCall(2, 2), 0, api.ErrArg},
		{dropCall(2, 6), 0, api.ErrNone},
		{dropCall(6, 1), 0, api.ErrNone},
		{dropCall(2, last), 0, api.ErrLimit},
		{weakenCall(2, 2), 0, api.ErrLimit},
		{weakenCall(2, 3), 0, api.ErrArg},
		{weakenCall(2, 2, 0), 0, api.ErrLit},
		{weakenCall(5, 1), 0, api.ErrState},
		{weakenCall(6, 1), 0, api.ErrNone},
		{keepCall(6), 0, api.ErrNone},
	} {
		if id, e := x.onBase(b); id != x.id || e != x.e {
			t.Errorf("%v: %d %d, want %d %d", x.call, id, e, x.id, x.e)
		}
	}
	if got := b.Entries(); !slices.EqualFunc(got, before, sameEntry) || b.Last() != last || len(b.Stack()) != 0 {
		t.Errorf("%v, want %v", got, before)
	}
	for _, id := range []int64{5, 1} {
		if e := b.Keep(id); e != api.OK || isRed(t, b, id) {
			t.Errorf("Keep(%d): %d", id, e)
		}
	}
}
