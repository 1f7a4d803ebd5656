package base

import (
	"math"
	"slices"
	"testing"

	"threshing/api"
)

// P7.2: which error comes first. (That of the limit is asked in TestLimit.)
func TestAddFirstError(t *testing.T) {
	each(t, square(),
		wanted{addCall(true, lits(0), 9), 0, api.ErrLit},
		wanted{addCall(true, lits(1, -1, 3), 9), 0, api.ErrLit},
		wanted{addCall(true, lits(1, -1, 0)), 0, api.ErrLit},
		wanted{addCall(true, lits(2, 3), 1, 2), 0, api.ErrLit},
		wanted{addCall(true, lits(1), 9, 1), 0, api.ErrHint},
		wanted{addCall(true, lits(1), 1, 9), 0, api.ErrHint},
		wanted{addCall(true, nil, 9), 0, api.ErrHint},
		wanted{addCall(true, nil, 1), 0, api.ErrHint},
		wanted{addCall(true, nil), 0, api.ErrProof},
		wanted{addCall(true, lits(1), 1), 0, api.ErrProof},
	)
}

// P7.2: which literals a clause may have.
func TestAddLits(t *testing.T) {
	for _, x := range []struct {
		vars int
		lits api.Clause
		e    api.Errno
	}{
		{2, lits(2, -2), api.OK},
		{2, lits(1, -1, 2), api.OK},
		{2, lits(1, -1, 3), api.ErrLit},
		{2, lits(1, -1, -3), api.ErrLit},
		{2, lits(3, -3), api.ErrLit},
		{2, lits(1, 0, -1), api.ErrLit},
		{2, lits(1, -1, math.MinInt32), api.ErrLit},
		{2, lits(1, -1, math.MaxInt32), api.ErrLit},
		{2, lits(1, -1, -math.MaxInt32), api.ErrLit},
		{0, lits(1, -1), api.ErrLit},
		{api.MaxVar, lits(api.MaxVar, -api.MaxVar), api.OK},
		{api.MaxVar, lits(1, -1, api.MaxVar+1), api.ErrLit},
		{api.MaxVar, lits(1, -1, -api.MaxVar-1), api.ErrLit},
	} {
		want := int64(0)
		if x.e == api.OK {
			want = 1
		}
		answers(t, api.Formula{Vars: x.vars}, wanted{addCall(true, x.lits), want, x.e})
	}
}

// P7.2: hints that are no live clause's ids.
func TestAddNoClause(t *testing.T) {
	for _, id := range []int64{math.MinInt64, -api.MaxID, -5, -1, 0, 5, 6, api.MaxID, math.MaxInt64} {
		each(t, square(),
			wanted{addCall(true, lits(2), id), 0, api.ErrHint},
			wanted{addCall(true, lits(2), id, 1, 2), 0, api.ErrHint},
			wanted{addCall(true, lits(2), 1, id, 2), 0, api.ErrHint},
			wanted{addCall(true, lits(2), 1, 2, id), 5, api.OK},
			wanted{addCall(true, lits(2, 1, -2), id), 5, api.OK},
		)
	}
	answers(t, square(),
		wanted{addCall(true, lits(2), 1, 2), 5, api.OK},
		wanted{addCall(true, lits(2), 5), 6, api.OK},
		wanted{deleteCall(5), 0, api.OK},
		wanted{addCall(true, lits(2), 5), 0, api.ErrHint},
		wanted{addCall(true, lits(2), 6), 7, api.OK},
		wanted{dropCall(1, 7), 0, api.OK},
		wanted{addCall(true, lits(1), 1, 3), 0, api.ErrHint},
		wanted{weakenCall(3, 1), 0, api.OK},
		wanted{addCall(true, lits(1), 7, 3), 0, api.ErrHint},
		wanted{addCall(true, lits(-1, 5), 7, 4), 0, api.ErrLit},
		wanted{addCall(true, lits(-1), 7, 4), 8, api.OK},
	)
}

// P7.2: hints that are wrong, each beside one that is not.
func TestAddWrong(t *testing.T) {
	f := of(lits(1, 2, 3), lits(-1), lits(2, 2, -1, 2), lits(4, -4), lits(5, 5), lits(-5, -5, -5), lits(-2, 6), nil)
	each(t, f,
		// Two literals, or three, are not false.
		wanted{addCall(false, lits(3), 1), 0, api.ErrHint},
		wanted{addCall(false, lits(9), 1), 0, api.ErrHint},
		wanted{addCall(false, lits(3, 2), 1), 0, api.ErrProof},
		wanted{addCall(false, lits(3, 2), 1, 2), 9, api.OK},
		wanted{addCall(false, lits(3, 2), 2, 1), 9, api.OK},
		// One alone is not false, but it is true.
		wanted{addCall(false, lits(3, 2), 1, 1), 0, api.ErrHint},
		wanted{addCall(false, lits(9), 2, 2), 0, api.ErrHint},
		wanted{addCall(false, lits(1), 2), 0, api.ErrHint},
		wanted{addCall(false, lits(9), 5, 5), 0, api.ErrHint},
		// One is true, and another has no value; or one is true, and all others are false.
		wanted{addCall(false, lits(-6), 7), 0, api.ErrHint},
		wanted{addCall(false, lits(2, -3), 1), 0, api.ErrHint},
		wanted{addCall(false, lits(1, 2, -3), 1), 0, api.ErrHint},
		// A literal that the hint's clause has twice is one of a set.
		wanted{addCall(false, lits(-1), 3), 0, api.ErrProof},
		wanted{addCall(false, lits(-1, 9), 3, 7), 0, api.ErrProof},
		wanted{addCall(false, lits(-1, 6), 3, 7), 9, api.OK},
		wanted{addCall(false, lits(-1, 2), 3), 9, api.OK},
		wanted{addCall(false, lits(9, 1, 5), 3), 0, api.ErrHint},
		wanted{addCall(false, lits(-1, -5), 5, 2), 0, api.ErrHint},
		wanted{addCall(false, nil, 5, 6), 9, api.OK},
		wanted{addCall(false, nil, 6, 5), 9, api.OK},
		wanted{addCall(false, lits(5), 5), 9, api.OK},
		// A literal with its negation is never unit, and never all false.
		wanted{addCall(false, lits(9), 4), 0, api.ErrHint},
		wanted{addCall(false, lits(4), 4), 0, api.ErrHint},
		wanted{addCall(false, lits(-4), 4), 0, api.ErrHint},
		// The empty clause has none that is not false.
		wanted{addCall(false, nil, 8), 9, api.OK},
		wanted{addCall(false, lits(7), 8), 9, api.OK},
		wanted{addCall(false, lits(7), 2, 8), 9, api.OK},
		wanted{addCall(false, lits(7), 4, 8), 0, api.ErrHint},
	)
}

// P7.2: an end too early, and hints behind the end.
func TestAddEnd(t *testing.T) {
	f := of(lits(1), lits(-1, 2), lits(-2, 3), lits(-3))
	each(t, f,
		wanted{addCall(true, nil), 0, api.ErrProof},
		wanted{addCall(true, nil, 1), 0, api.ErrProof},
		wanted{addCall(true, nil, 1, 2, 3), 0, api.ErrProof},
		wanted{addCall(true, nil, 4, 3, 2), 0, api.ErrProof},
		wanted{addCall(true, nil, 1, 2, 3, 4), 5, api.OK},
		wanted{addCall(true, nil, 4, 3, 2, 1), 5, api.OK},
		wanted{addCall(true, nil, 1, 4, 3, 2), 5, api.OK},
		wanted{addCall(true, nil, 1, 2, 3, 4, 4, 1, 77, 0, -1, math.MinInt64), 5, api.OK},
		wanted{addCall(true, nil, 1, 2, 3, 3, 4), 0, api.ErrHint},
		wanted{addCall(true, lits(3), 1, 2), 0, api.ErrProof},
		wanted{addCall(true, lits(3), 1, 2, 3), 5, api.OK},
		wanted{addCall(true, lits(3), 1, 2, 3, 3), 5, api.OK},
		wanted{addCall(true, lits(3, 3), 3, 2, 1, 99), 5, api.OK},
		wanted{addCall(true, lits(1), 1, 99), 5, api.OK},
	)
}

// P7.2: a clause with a literal twice, or with its negation.
func TestAddBoth(t *testing.T) {
	each(t, of(lits(1), lits(2, 3)),
		wanted{addCall(false, lits(4, -4)), 3, api.OK},
		wanted{addCall(false, lits(-4, 4)), 3, api.OK},
		wanted{addCall(false, lits(5, 4, 5, 6, -5), 77, 0), 3, api.OK},
		wanted{addCall(false, lits(-9, 1, 2, 3, 9), 2, 2), 3, api.OK},
		wanted{addCall(false, lits(4, 4)), 0, api.ErrProof},
		wanted{addCall(false, lits(1, 1), 1), 3, api.OK},
		wanted{addCall(false, lits(3, 2, 3, 2), 2), 3, api.OK},
		wanted{addCall(false, lits(-4, -4, 1), 1), 3, api.OK},
		wanted{addCall(false, lits(-4, 3, -4, 4), 2), 3, api.OK},
	)
}

// P7.2: the clause as it stands, redundant or not, under the id Last and 1, whatever went between.
func TestAddLive(t *testing.T) {
	b, _ := answers(t, of(lits(1)),
		wanted{addCall(true, lits(3, 1, 3, -2), 1), 2, api.OK},
		wanted{addCall(false, lits(3, 1, 3, -2), 1), 3, api.OK},
		wanted{addCall(true, lits(2), 1), 0, api.ErrProof},
		wanted{deleteCall(2), 0, api.OK},
		wanted{addCall(true, lits(1), 1, 5), 4, api.OK},
		wanted{deleteCall(4), 0, api.OK},
		wanted{addCall(true, lits(9, 1, -9)), 5, api.OK},
	)
	if got := b.Entries(); !slices.EqualFunc(got, []api.Entry{{ID: 1, Lits: lits(1)}, {ID: 3, Lits: lits(3, 1, 3, -2)}, {ID: 5, Lits: lits(9, 1, -9), Red: true}}, sameEntry) {
		t.Error(got)
	}
	want := []api.Step{
		{Kind: api.SAdd, ID: 2, Lits: lits(3, 1, 3, -2), Hints: []int64{1}},
		{Kind: api.SAdd, ID: 3, Lits: lits(3, 1, 3, -2), Hints: []int64{1}},
		{Kind: api.SDel, ID: 3, Hints: []int64{2}},
		{Kind: api.SAdd, ID: 4, Lits: lits(1), Hints: []int64{1, 5}},
		{Kind: api.SDel, ID: 4, Hints: []int64{4}},
		{Kind: api.SAdd, ID: 5, Lits: lits(9, 1, -9)},
	}
	if got := b.Steps(); !slices.EqualFunc(got, want, sameStep) {
		t.Error(got)
	}
	if b.Last() != 5 {
		t.Error(b.Last())
	}
}

// P7.2: what one check has found is not there in the next, whether the one before answered an error or not.
func TestAddAnew(t *testing.T) {
	f := of(lits(1), lits(-1, 2), lits(-2, 3), lits(-1, -2, -3, 4))
	b, p := made(t, f), newPlain(f)
	for _, c := range []call{
		addCall(true, nil, 1, 2, 3), addCall(true, nil, 1, 2, 3, 9), addCall(true, nil, 1, 2, 2), addCall(true, lits(5, -5), 1),
		addCall(true, lits(-1), 2, 3, 4), addCall(true, lits(4), 1, 2, 3, 4), addCall(true, lits(5, 6, 7, -5)), addCall(true, lits(3, 4, 0)),
	} {
		for range 2 {
			both(t, b, p, c)
			for _, d := range []call{addCall(true, nil, 2), addCall(true, nil, 3), addCall(true, lits(2), 2), addCall(true, lits(3), 1, 2, 3), addCall(true, lits(-1), 2), addCall(true, lits(5, 6)), addCall(true, lits(1), 1)} {
				both(t, b, p, d)
			}
		}
	}
	same(t, b, p)
}

// rowsUpTo is all rows of at most n of these.
func rowsUpTo[T any](n int, of ...T) [][]T {
	all := [][]T{nil}
	for from := 0; n > 0; n-- {
		end := len(all)
		for _, row := range all[from:end] {
			for _, x := range of {
				all = append(all, append(slices.Clone(row), x))
			}
		}
		from = end
	}
	return all
}

// P7.2: all short clauses by all short rows of hints, over some small formulas.
func TestAddAll(t *testing.T) {
	found := map[api.Errno]int{}
	for _, f := range []api.Formula{
		square(),
		{Vars: 2, Clauses: []api.Clause{{-1, 2}, {-1, -2, 2}, {1, -1}, {-2, -2}}},
		{Vars: 2, Clauses: []api.Clause{{1, 2, 1}, {-1, -1}, {2, -1}, {-2, 1, -2}}},
		{Vars: 2, Clauses: []api.Clause{{2, 2}, {-2, 1}, {-1, -1, -2}, {}}},
	} {
		b, p := made(t, f), newPlain(f)
		for _, c := range rowsUpTo[api.Lit](2, -3, -2, -1, 0, 1, 2, 3) {
			for _, hints := range rowsUpTo[int64](3, -1, 0, 1, 2, 3, 4, 5) {
				e := both(t, b, p, addCall(len(hints) == 2, c, hints...))
				found[e]++
				if e == api.OK {
					same(t, b, p)
					b, p = made(t, f), newPlain(f)
				}
			}
		}
		same(t, b, p)
	}
	for _, e := range []api.Errno{api.OK, api.ErrLit, api.ErrHint, api.ErrProof} {
		if found[e] < 100 {
			t.Errorf("error %d was told %d times", e, found[e])
		}
	}
}
