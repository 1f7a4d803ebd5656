package follow

import (
	"slices"
	"testing"

	"threshing/api"
	"threshing/base"
)

func of(t *testing.T, vars int, clauses ...api.Clause) *base.Base {
	t.Helper()
	b, e := base.New(api.Formula{Vars: vars, Clauses: clauses})
	if e != api.OK {
		t.Fatal(e)
	}
	return b
}

// What is laid out once answers the same again and again, also behind conflicts and with a clause left out.
func TestAgain(t *testing.T) {
	c := New(of(t, 5, api.Clause{1}, api.Clause{-1, 2, 2}, api.Clause{-2, 3, 4}, api.Clause{2, 4}, api.Clause{-4, 5, -1}))
	type row struct {
		first    api.Clause
		without  int64
		truths   api.Clause
		reasons  []int64
		conflict int64
	}
	rows := []row{
		{nil, 0, api.Clause{1, 2}, []int64{1, 2}, 0},
		{api.Clause{-3, -3}, 0, api.Clause{-3, 1, 2, 4, 5}, []int64{1, 2, 3, 5}, 0},
		{api.Clause{-3}, 2, api.Clause{-3, 1}, []int64{1}, 0},
		{api.Clause{-2}, 0, api.Clause{-2, 1}, []int64{1}, 2},
		{api.Clause{-1}, 0, api.Clause{-1}, nil, 1},
		{api.Clause{-1}, 1, api.Clause{-1}, nil, 0},
	}
	for i := range 36 {
		x := rows[i*i%7%6]
		truths, reasons, conflict := c.From(x.first, x.without)
		if !slices.Equal(truths, x.truths) || !slices.Equal(reasons, x.reasons) || conflict != x.conflict {
			t.Errorf("From(%v, %d): %v %v %d", x.first, x.without, truths, reasons, conflict)
		}
	}
}

// What is done to a base behind New is not seen.
func TestNotSeen(t *testing.T) {
	b := of(t, 2, api.Clause{1, 2})
	c := New(b)
	b.Weaken(1, api.Clause{1})
	if truths, reasons, _ := c.From(api.Clause{-1}, 0); !slices.Equal(truths, api.Clause{-1, 2}) || !slices.Equal(reasons, []int64{1}) {
		t.Error(truths, reasons)
	}
}

// No base, and one that no call made, have no clauses.
func TestNoBase(t *testing.T) {
	for _, b := range []*base.Base{nil, new(base.Base)} {
		if truths, reasons, conflict := New(b).From(nil, 0); len(truths) > 0 || len(reasons) > 0 || conflict != 0 {
			t.Error(truths, reasons, conflict)
		}
	}
}
