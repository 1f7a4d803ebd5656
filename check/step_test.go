package check

import (
	"slices"
	"testing"

	"threshing/api"
)

// P6.2: steps that may not be, each beside one at the bound that may.
func TestMayBe(t *testing.T) {
	f := of(lits(1))
	for _, s := range []api.Step{
		{},
		{Kind: 3, ID: 2, Lits: lits(1), Hints: []int64{1}},
		{Kind: 255, ID: 2},
		{ID: 2, Lits: lits(1), Hints: []int64{1}},
		added(0, lits(1), 1),
		added(-1, lits(1), 1),
		added(-1<<63, lits(1), 1),
		added(api.MaxID+1, lits(1), 1),
		added(1<<63-1, lits(1), 1),
		added(2, lits(1, 0), 1),
		added(2, lits(0), 1),
		added(2, lits(1, api.MaxVar+1), 1),
		added(2, lits(-api.MaxVar-1, 1), 1),
		added(2, lits(1, -1<<31), 1),
		added(2, lits(1, 1<<31-1), 1),
		added(2, lits(1), 1, 0),
		added(2, lits(1), 0, 1),
		added(2, lits(1), 1, api.MaxID+1),
		added(2, lits(1), 1, -api.MaxID-1),
		added(2, lits(1), 1, -1<<63),
		added(2, lits(2, -2), 1<<63-1),
		gone(-1, 1),
		gone(-1),
		gone(api.MaxID+1, 1),
		gone(-1<<63, 1),
		gone(1, 0),
		gone(1, 1, -1),
		gone(1, 1, api.MaxID+1),
		gone(1, -1<<63),
		{Kind: api.SDel, ID: 1, Lits: lits(1), Hints: []int64{1}},
		{Kind: api.SDel, ID: 1, Lits: lits(0)},
	} {
		stays(t, f, s, api.ErrStep)
	}
	for _, s := range []api.Step{
		added(2, lits(1), 1),
		added(api.MaxID, lits(1), 1),
		added(2, lits(1, api.MaxVar, -api.MaxVar), 1),
		added(2, lits(api.MaxVar, 1), 1),
		added(2, lits(-api.MaxVar, 1), 1),
		added(2, lits(1), 1, api.MaxID, -api.MaxID),
		gone(0, 1),
		gone(api.MaxID, 1),
		gone(0),
		{Kind: api.SDel, Lits: lits(), Hints: []int64{1}},
	} {
		stays(t, f, s, api.OK)
	}
	stays(t, f, gone(0, api.MaxID), api.ErrNone)
	stays(t, f, added(2, lits(2), api.MaxID), api.ErrHint)
	stays(t, f, added(2, lits(2), -api.MaxID), api.ErrHint)
}

// P6.2: which error comes first.
func TestFirstError(t *testing.T) {
	f := of(lits(1, 2), lits(-1, 2))
	for _, x := range []struct {
		s    api.Step
		want api.Errno
	}{
		{added(1, lits(0), 9), api.ErrStep},
		{added(1, lits(1), 9, 0), api.ErrStep},
		{added(2, lits(1), 9), api.ErrID},
		{added(2, lits(1, -1), 9), api.ErrID},
		{added(1, nil), api.ErrID},
		{added(3, nil, 9), api.ErrHint},
		{added(3, nil, 1), api.ErrHint},
		{added(3, nil), api.ErrProof},
		{added(3, lits(1), -2, -9), api.ErrProof},
		{added(3, lits(1), -9, -2), api.ErrHint},
		{added(3, lits(1), -1, -2), api.ErrHint},
		{added(3, lits(1)), api.ErrProof},
		{added(3, lits(1), -2, 9), api.ErrHint},
		{added(3, lits(1), -2, 1, 9), api.OK},
		{gone(-1, 9), api.ErrStep},
		{gone(1, 9, 0), api.ErrStep},
		{gone(1, 9), api.ErrNone},
	} {
		stays(t, f, x.s, x.want)
	}
}

// P6.2: ids rise above the last one that there ever was, also if its clause is gone.
func TestIDs(t *testing.T) {
	c := made(t, of(lits(1), lits(2)))
	for _, id := range []int64{1, 2} {
		answers(t, c, added(id, lits(1), 1), api.ErrID)
	}
	answers(t, c, gone(0, 2), api.OK)
	answers(t, c, added(2, lits(1), 1), api.ErrID)
	answers(t, c, added(3, lits(1), 1), api.OK)
	answers(t, c, added(3, lits(1), 1), api.ErrID)
	answers(t, c, added(9, lits(1), 1), api.OK)
	for id := int64(1); id <= 9; id++ {
		answers(t, c, added(id, lits(1), 1), api.ErrID)
	}
	// A step that did not hold leaves its id free.
	answers(t, c, added(20, nil, 1), api.ErrProof)
	answers(t, c, added(19, lits(1), 77), api.ErrHint)
	answers(t, c, added(10, lits(1), 1), api.OK)
	answers(t, c, gone(0, 3, 9, 10), api.OK)
	answers(t, c, added(10, lits(1), 1), api.ErrID)
	// A deletion's ID is not looked at.
	answers(t, c, gone(5000, 1), api.OK)
	answers(t, c, added(11, lits(1, -1)), api.OK)
	answers(t, c, added(api.MaxID, lits(1, -1)), api.OK)
	answers(t, c, added(api.MaxID, lits(1, -1)), api.ErrID)
	c = made(t, api.Formula{})
	answers(t, c, added(1, lits(4)), api.OK)
}

// P6.2: hints ahead of groups.
func TestHints(t *testing.T) {
	f := of(lits(1, 2), lits(-2, 3), lits(-3, 1), lits(4, 5), lits(6, 6), lits(7, -7, 1), lits(-4, -4, -6), lits(-1, 8))
	for _, x := range []struct {
		lits  api.Clause
		hints []int64
		want  api.Errno
	}{
		{lits(1), []int64{1, 2, 3}, api.OK},
		{lits(1), []int64{1, 3, 2}, api.OK},
		{lits(1), []int64{3, 2, 1}, api.OK},
		{lits(1), []int64{1, 2}, api.ErrProof},
		{lits(1), []int64{1, 1, 2, 3}, api.ErrHint},         // unit, then true
		{lits(1), []int64{1, 4, 2, 3}, api.ErrHint},         // two without a value
		{lits(1), []int64{1, 9, 2, 3}, api.ErrHint},         // none such
		{lits(1), []int64{2, 1, 3}, api.ErrHint},            // not unit yet
		{lits(1), []int64{8, 1, 2, 3}, api.ErrHint},         // -1 is true
		{lits(1), []int64{1, 2, 3, 4}, api.OK},              // behind a conflict
		{lits(1), []int64{1, 2, 3, 99, -99, -1}, api.OK},    // ..
		{lits(1, 2), []int64{1, 99}, api.OK},                // a conflict at once
		{lits(1, 2), []int64{99, 1}, api.ErrHint},           // ahead of it
		{lits(5), []int64{5, 7, 4}, api.OK},                 // a literal twice is one
		{lits(5), []int64{4, 5, 7, 99}, api.OK},             // ..
		{lits(5), []int64{7, 5, 4}, api.ErrHint},            // -4 and -6
		{lits(1), []int64{6, 1, 2, 3}, api.ErrHint},         // 7 and -7
		{lits(1, 7), []int64{6, 1}, api.ErrHint},            // -7 is true
		{lits(1, -7), []int64{6, 1}, api.ErrHint},           // 7 is true
		{lits(-1), []int64{1}, api.ErrHint},                 // 1 is true
		{lits(2, 1, 2), []int64{1}, api.OK},                 // a literal twice in the clause
		{lits(8, 1, -8), []int64{77}, api.OK},               // a literal and its negation
		{lits(8, -8, 1), []int64{-77}, api.OK},              // ..
		{lits(1, 2, 3, 4, 5, -1), nil, api.OK},              // the last one is the first one's
		{nil, []int64{5, 7, 4}, api.ErrProof},               // no conflict
		{nil, []int64{5, 7, 4, -1}, api.ErrProof},           // the empty clause has no groups
		{nil, []int64{-99}, api.ErrProof},                   // ..
		{nil, []int64{5, 7, 4, 99}, api.ErrHint},            // a hint ahead is wrong for it, too
		{nil, []int64{5, 7, 7}, api.ErrHint},                // -4 is true
		{lits(9, 1), []int64{1, 2, 3}, api.OK},              // no need of 9
		{lits(9, 5), []int64{}, api.OK},                     // nothing has -9
		{lits(9, 5), []int64{4, 5}, api.OK},                 // ..
		{lits(9, 5), []int64{4, 4}, api.ErrHint},            // but a hint that is wrong is
		{lits(9, 5), []int64{-4}, api.ErrHint},              // ..
		{lits(-1, -2, -3, -4, -5), []int64{}, api.ErrProof}, // 1 has no group
	} {
		s := added(9, x.lits, x.hints...)
		if p := newPlain(f).step(s); p != x.want {
			t.Errorf("plainly %v: %d, want %d", s, p, x.want)
		}
		stays(t, f, s, x.want)
	}
}

// P6.2: an empty clause is a conflict by itself.
func TestEmptyHint(t *testing.T) {
	f := of(lits(1), nil, lits(-5))
	stays(t, f, added(4, nil, 2), api.OK)
	stays(t, f, added(4, nil, 1, 2, 9), api.OK)
	stays(t, f, added(4, lits(5), 2, 9), api.OK)
	stays(t, f, added(4, lits(5), -3, 2, 9), api.OK)
	stays(t, f, added(4, lits(5), -2), api.ErrHint)
	stays(t, f, added(4, nil, -2), api.ErrProof)
}

// P6.2: groups.
func TestGroups(t *testing.T) {
	f := of(lits(-1, 2), lits(3, -1), lits(-2, 4), lits(-3, 5), lits(2, 6), lits(3, 7), lits(-6, -2, 8))
	for _, x := range []struct {
		lits  api.Clause
		hints []int64
		want  api.Errno
	}{
		{lits(1, -2, -3), []int64{-1, -2}, api.OK},           // 2 and 3 are true
		{lits(1, -2, -3), []int64{-1, 99, -2, 98}, api.OK},   // hints of a group that holds so are not looked at
		{lits(1, -2, -3), []int64{-2, -1}, api.ErrHint},      // they do not rise
		{lits(1, -2, -3), []int64{-1, -1, -2}, api.ErrHint},  // ..
		{lits(1, -2, -3), []int64{-1, -2, -2}, api.ErrHint},  // ..
		{lits(1, -2, -3), []int64{-1}, api.ErrProof},         // 2 has no group
		{lits(1, -2, -3), []int64{-2}, api.ErrProof},         // 1 has no group
		{lits(1, -2, -3), nil, api.ErrProof},                 // neither has
		{lits(1, -2, -3), []int64{-1, -2, -3}, api.ErrHint},  // 3 has no -1
		{lits(1, -2, -3), []int64{-1, -2, -99}, api.ErrHint}, // there is no 99
		{lits(-2, 1, -6), []int64{-1, -5}, api.OK},           // -1 and 6 are true
		{lits(-2, 1, -6), []int64{-5}, api.ErrProof},         // 1 has no group
		{lits(-2, 1, -3), []int64{-1, -5}, api.ErrProof},     // 5 comes to no conflict
		{lits(-2, 1, 6), []int64{-1, -5}, api.ErrProof},      // 6 is false already: no conflict without a hint
		{lits(-2, 1, 6), []int64{-1, -5, 5}, api.ErrHint},    // 2 is true
		{lits(1), []int64{-1, 99, -2}, api.ErrHint},          // a hint that is wrong, in a group
		{lits(1), []int64{-1, 5, -2, 6}, api.ErrProof},       // 6 is true by 5, 7 by 6: no conflict
		{lits(1), []int64{-1, -2}, api.ErrProof},             // no hints, no conflict
		{lits(1, 6, 7), []int64{-1, 5, -2, 6}, api.OK},       // by a conflict each
		{lits(1, 6, 7), []int64{-1, 5, 99, -2, 6, -99}, api.ErrHint},
		{lits(1, 6, 7), []int64{-1, 5, 99, -2, 6, 98}, api.OK}, // behind a conflict
		{lits(1, 6, 7), []int64{-1, 6, 4, 5, -2, 6}, api.OK},   // 3 is true by 6, 5 by 4
		{lits(1, 6, 7), []int64{-1, 6, -2, 6}, api.ErrProof},   // 3 by 6, no conflict
		{lits(1, 6, 7), []int64{-1, 5, -2, 5, 6}, api.OK},      // what the first group set is taken back
		{lits(1, 6, 7), []int64{5, -1, -2, 6}, api.OK},         // hints ahead: 2 is true
		{lits(1, 6, 7), []int64{5, -1, 77, -2, 6}, api.OK},     // ..
		{lits(1, 6, 7), []int64{5, 6, -1, -2}, api.OK},         // both are
		{lits(1, 6, 7), []int64{5, 6, 3, 4, -1, -2}, api.OK},   // ..
		{lits(1, 6, 7), []int64{5, 5, -1, -2}, api.ErrHint},    // 5 is true
		{lits(1, 6, 7), []int64{5, 6, -1}, api.ErrProof},       // 2 has no group
		{lits(1, 1, 6, 7), []int64{5, 6, -1, -2}, api.OK},      // 1 twice
		{lits(6, 1, 7), []int64{5, 6, -7}, api.ErrProof},       // -7: -6 -2 8: -2 is false, 8 made so
		{lits(6, 1, 8), []int64{-7, 5}, api.ErrHint},           // 2 is true, as 7 has -2
		{lits(6, 1, -8), []int64{-7}, api.OK},                  // 8 is true
		{lits(9), nil, api.OK},
		{lits(9), []int64{-1}, api.ErrHint},
		{lits(-9, 1), []int64{}, api.OK},
	} {
		s := added(8, x.lits, x.hints...)
		if p := newPlain(f).step(s); p != x.want {
			t.Errorf("plainly %v: %d, want %d", s, p, x.want)
		}
		stays(t, f, s, x.want)
	}
}

// P6.2: groups of clauses with a literal twice, or with its negation.
func TestGroupsTwice(t *testing.T) {
	f := of(lits(-1, 2, -1), lits(1, -1), lits(3, -1, -3), lits(-1, -1))
	for _, x := range []struct {
		lits  api.Clause
		hints []int64
		want  api.Errno
	}{
		{lits(1, -2), []int64{-1, -2, -3, -4}, api.ErrProof},   // 4 has no other literal, and no conflict
		{lits(1, -2), []int64{-1, -2, -3, -4, 1}, api.ErrHint}, // -1 is true
		{lits(1, -2), []int64{-1, -2, -3, -4, 4}, api.ErrHint}, // ..
		{lits(1, -2), []int64{-1, -2, -3}, api.ErrProof},       // 4 has none
		{lits(1, -2), []int64{-1, -2, -4}, api.ErrProof},       // 4 comes to no conflict
		{lits(1, -2), []int64{-2, -3}, api.ErrProof},           // ..
		{lits(1, -2), []int64{-1, -3}, api.ErrProof},           // ..
		{lits(-1), []int64{-2}, api.OK},                        // 2 alone has 1: and its negation
		{lits(-1), []int64{-2, 99}, api.OK},                    // ..
		{lits(-1), nil, api.ErrProof},                          // but it must have its group
		{lits(-3, 5), []int64{-3}, api.OK},                     // ..
		{lits(3, 5), []int64{-3}, api.OK},                      // ..
		{lits(3, 5), nil, api.ErrProof},                        // ..
	} {
		stays(t, f, added(5, x.lits, x.hints...), x.want)
	}
	g := of(lits(-1, 2, -1), lits(1, -1), lits(3, -1, -3))
	stays(t, g, added(5, lits(1, -2), -1, -2, -3), api.OK)
	for _, hints := range [][]int64{{-2, -3}, {-1, -3}, {-1, -2}, {-1}, {-2}, {-3}, nil} {
		stays(t, g, added(5, lits(1, -2), hints...), api.ErrProof)
	}
}

// P6.2: whether each clause has its group is asked of those that stand then: not of those that are gone, and of those that came.
func TestGroupsOfStanding(t *testing.T) {
	c := made(t, of(lits(-1, 2), lits(-1, 3), lits(4, -1, -1)))
	answers(t, c, added(4, lits(1, -2, -3), -1, -2), api.ErrProof)
	answers(t, c, gone(0, 3), api.OK)
	answers(t, c, added(4, lits(1, -2, -3), -1, -2, -3), api.ErrHint)
	answers(t, c, added(4, lits(9, -1)), api.OK)
	answers(t, c, added(5, lits(1, -2, -3), -1, -2), api.ErrProof)
	answers(t, c, added(5, lits(1, -2, -3), -1, -2, -4), api.ErrProof)
	answers(t, c, added(5, lits(1, -2, -3, -9), -1, -2, -4), api.OK)
	answers(t, c, gone(0, 4, 1), api.OK)
	answers(t, c, added(6, lits(1, -2, -3), -1, -2), api.ErrHint)
	answers(t, c, added(6, lits(1, -2, -3), -2), api.OK)
	answers(t, c, gone(0, 2), api.OK)
	answers(t, c, added(7, lits(1)), api.OK)
	// A step that does not hold counts for nothing.
	answers(t, c, added(8, lits(-8, 6, 7), -77), api.ErrHint)
	answers(t, c, added(8, lits(8)), api.OK)
}

// P6.2: deletions.
func TestDeletions(t *testing.T) {
	f := of(lits(1), lits(2), lits(3))
	for _, x := range []struct {
		ids  []int64
		want api.Errno
	}{
		{nil, api.OK},
		{[]int64{}, api.OK},
		{[]int64{1}, api.OK},
		{[]int64{3, 1, 2}, api.OK},
		{[]int64{1, 1}, api.ErrNone},
		{[]int64{1, 2, 1}, api.ErrNone},
		{[]int64{3, 2, 1, 3}, api.ErrNone},
		{[]int64{4}, api.ErrNone},
		{[]int64{1, 2, 4}, api.ErrNone},
		{[]int64{4, 1, 2}, api.ErrNone},
		{[]int64{api.MaxID}, api.ErrNone},
	} {
		c, p := made(t, f), newPlain(f)
		answers(t, c, gone(0, x.ids...), x.want)
		if x.want == api.OK {
			p.step(gone(0, x.ids...))
		}
		same(t, c, p)
	}
	c := made(t, f)
	answers(t, c, gone(0, 2), api.OK)
	answers(t, c, gone(0, 2), api.ErrNone)
	answers(t, c, gone(0, 1, 2), api.ErrNone)
	answers(t, c, added(4, nil, 2), api.ErrHint)
	answers(t, c, added(4, lits(1), 1), api.OK)
	answers(t, c, gone(0, 4, 1, 3), api.OK)
	answers(t, c, gone(0), api.OK)
}

// P6.2: an error leaves nothing set: the next step is looked at as if there had been none.
func TestTakenBack(t *testing.T) {
	f := of(lits(1, 2), lits(-2, 3), lits(-3, 4), lits(-5, 1))
	steps := []api.Step{
		added(5, lits(1), 1, 2, 3),
		added(5, lits(1), 1, 2, 99),
		added(5, lits(5), -4),
		added(5, lits(5), 1, -4),
		added(5, lits(5), -4, 1, 2, 3),
		added(5, lits(5), -4, 1, 2, 99),
		added(5, lits(5, 9, 8, 7)),
		added(5, lits(1, 2, 3, 4, 5, 9, -9), 9),
		added(5, lits(-4, 1), 1, 2, 3),
		added(5, nil, 1),
		gone(0, 1, 1),
	}
	for _, first := range steps {
		for _, then := range steps {
			c, p := made(t, f), newPlain(f)
			answers(t, c, first, p.step(first))
			answers(t, c, then, p.step(then))
			same(t, c, p)
		}
	}
}

// P6.2: the limit of literals, and one past it; it comes behind all that hints can tell.
func TestLimit(t *testing.T) {
	const clauses = 16
	row := slices.Repeat(lits(1), api.MaxLits/clauses)
	f := api.Formula{Vars: 1, Clauses: slices.Repeat([]api.Clause{row}, clauses)}
	c := made(t, f)
	asks := func(s api.Step, want api.Errno) {
		t.Helper()
		if e := c.Step(s); e != want {
			t.Errorf("step %d of %d literals: %d, want %d", s.ID, len(s.Lits), e, want)
		}
	}
	asks(added(17, lits(1), 1), api.ErrLimit)
	asks(added(17, lits(2, -2)), api.ErrLimit)
	asks(added(17, lits(2)), api.ErrLimit)
	asks(added(16, lits(1), 1), api.ErrID)
	asks(added(17, lits(1), 99), api.ErrHint)
	asks(added(17, lits(-1)), api.ErrProof)
	asks(added(17, lits(0)), api.ErrStep)
	asks(added(17, nil), api.ErrProof)
	if l := c.Live(); len(l) != clauses {
		t.Error(l)
	}
	asks(gone(0, 3), api.OK)
	asks(added(17, append(slices.Clone(row), 2), 1), api.ErrLimit)
	asks(added(17, row, 1), api.OK)
	asks(added(18, lits(1), 1), api.ErrLimit)
	asks(gone(0, 17), api.OK)
	asks(added(18, lits(1), 1), api.OK)
	asks(added(19, row, 1), api.ErrLimit)
	asks(added(19, row[1:], 1), api.OK)
	asks(added(20, lits(2)), api.ErrLimit)
	asks(gone(0, 1, 2, 4, 5, 6, 7, 8, 9, 10, 11, 12, 13, 14, 15, 16, 18, 19), api.OK)
	whole := slices.Repeat(lits(1, -1), api.MaxLits/2)
	asks(added(20, append(slices.Clone(whole), 1)), api.ErrLimit)
	asks(added(20, whole), api.OK)
	asks(added(21, lits(3)), api.ErrLimit)
	asks(added(21, lits(1, -1)), api.ErrLimit)
}

// P6.2: an empty clause has no literals, and stands at the limit, too.
func TestLimitEmpty(t *testing.T) {
	f := api.Formula{Vars: 1, Clauses: []api.Clause{slices.Repeat(lits(1), api.MaxLits-1), {-1}}}
	if done, n, e := Run(f, []api.Step{added(3, lits(1), 1), added(4, nil, 1, 2)}); done || n != 0 || e != api.ErrLimit {
		t.Error(done, n, e)
	}
	if done, n, e := Run(f, []api.Step{added(4, nil, 1, 2)}); !done || n != 1 || e != api.OK {
		t.Error(done, n, e)
	}
}

// Many clauses, and many steps that hold by groups, or for want of them.
func TestManyGroups(t *testing.T) {
	const n = 100000
	f := api.Formula{Vars: 2 * n}
	for v := api.Lit(1); v <= n; v++ {
		f.Clauses = append(f.Clauses, lits(v, -v-n), lits(-v, v+n))
	}
	c := made(t, f)
	id := int64(2 * n)
	for v := api.Lit(1); v <= n; v++ {
		id++
		// By a hint; by a literal that is new; by the group of that one's clause, whose other literal is true.
		answersQuickly(t, c, added(id, lits(v, -v-n), int64(2*v-1)), api.OK)
		id++
		answersQuickly(t, c, added(id, lits(2*n+v, v)), api.OK)
		id++
		answersQuickly(t, c, added(id, lits(-2*n-v, -v), 1-id), api.OK)
	}
	if l := c.Live(); len(l) != 5*n {
		t.Error(len(l))
	}
}

// answersQuickly is answers without a look at all clauses.
func answersQuickly(t *testing.T, c *Checker, s api.Step, want api.Errno) {
	t.Helper()
	if e := c.Step(s); e != want {
		t.Fatalf("%v: %d, want %d", s, e, want)
	}
}

// One clause that many others must have a group for.
func TestManyInOneGroup(t *testing.T) {
	const n = 20000
	f := api.Formula{Vars: n + 1}
	hints := []int64{}
	for v := api.Lit(2); v <= n+1; v++ {
		f.Clauses = append(f.Clauses, lits(-1, v))
		hints = append(hints, 1-int64(v))
	}
	c := lits(1)
	for v := api.Lit(2); v <= n+1; v++ {
		c = append(c, -v)
	}
	answersQuickly(t, made(t, f), added(n+1, c, hints...), api.OK)
	answersQuickly(t, made(t, f), added(n+1, c, hints[1:]...), api.ErrProof)
	answersQuickly(t, made(t, f), added(n+1, c, hints[:n-1]...), api.ErrProof)
	answersQuickly(t, made(t, f), added(n+1, c[:n], hints...), api.ErrProof)
}
