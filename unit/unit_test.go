package unit

import (
	"math"
	"reflect"
	"slices"
	"testing"

	"threshing/api"
	"threshing/base"
	"threshing/sample"
)

func lits(l ...api.Lit) api.Clause { return l }
func ids(n ...int64) []int64       { return n }

// of is a base of a formula.
func of(t *testing.T, vars int, clauses ...api.Clause) *base.Base {
	t.Helper()
	b, e := base.New(api.Formula{Vars: vars, Clauses: clauses})
	if e != api.OK {
		t.Fatal(e)
	}
	return b
}

// example is the chapter's.
func example(t *testing.T) *base.Base {
	t.Helper()
	return of(t, 5, lits(1), lits(-1, 2), lits(-2, 3, 4), lits(2, 4), lits(-4, 5, -1))
}

// same tells whether two trails are, whatever their empty lists are.
func same(a, b Trail) bool {
	return slices.Equal(a.True, b.True) && slices.Equal(a.Reasons, b.Reasons) && a.Conflict == b.Conflict
}

func tells(t *testing.T, b *base.Base, first api.Clause, without int64, want Trail) {
	t.Helper()
	if x, e := Propagate(b, first, without); e != api.OK || !same(x, want) {
		t.Errorf("Propagate(%v, %d): %v %d, not %v", first, without, x, e, want)
	}
}

func refuses(t *testing.T, b *base.Base, first api.Clause, want api.Errno) {
	t.Helper()
	for _, without := range []int64{0, 1, -1, math.MaxInt64} {
		x, e := Propagate(b, first, without)
		if e != want || x.True != nil || x.Reasons != nil || x.Conflict != 0 {
			t.Errorf("Propagate(%v, %d): %v %d, not %d", first, without, x, e, want)
		}
	}
}

// The chapter's examples.
func TestExamples(t *testing.T) {
	b := example(t)
	tells(t, b, nil, 0, Trail{lits(1, 2), ids(1, 2), 0})
	tells(t, b, lits(-3), 0, Trail{lits(-3, 1, 2, 4, 5), ids(1, 2, 3, 5), 0})
	tells(t, b, lits(-3), 2, Trail{lits(-3, 1), ids(1), 0})
	tells(t, b, lits(-2), 0, Trail{lits(-2, 1), ids(1), 2})
	done(t, b, 9, 5, []api.Step{
		{Kind: api.SAdd, ID: 6, Lits: lits(2), Hints: ids(1, 2)},
		{Kind: api.SDel, ID: 6, Hints: ids(2)},
		{Kind: api.SAdd, ID: 7, Lits: lits(3, 4), Hints: ids(6, 3)},
		{Kind: api.SDel, ID: 7, Hints: ids(3)},
		{Kind: api.SDel, ID: 7, Hints: ids(4)},
		{Kind: api.SAdd, ID: 8, Lits: lits(-4, 5), Hints: ids(1, 5)},
		{Kind: api.SDel, ID: 8, Hints: ids(5)},
	})
	live(t, b, api.Entry{ID: 1, Lits: lits(1)}, api.Entry{ID: 6, Lits: lits(2)}, api.Entry{ID: 7, Lits: lits(3, 4)}, api.Entry{ID: 8, Lits: lits(-4, 5)})
}

// P20.1: what is wrong, the first of it, whatever is behind it.
func TestPropagateWrong(t *testing.T) {
	for _, first := range []api.Clause{nil, {}, lits(1), lits(0), lits(1, -1), lits(9)} {
		refuses(t, nil, first, api.ErrNil)
	}
	b := example(t)
	for _, first := range []api.Clause{lits(0), lits(6), lits(-6), lits(1, 0), lits(1, -1, 0), lits(6, 1, -1), lits(math.MaxInt32), lits(math.MinInt32), lits(1, 2, 3, 4, 5, -6)} {
		refuses(t, b, first, api.ErrLit)
	}
	for _, first := range []api.Clause{lits(1, -1), lits(-1, 1), lits(5, 2, 3, -5), lits(-2, -2, 2), lits(3, -3, 4, -4)} {
		refuses(t, b, first, api.ErrArg)
	}
	refuses(t, of(t, 0), lits(1), api.ErrLit)
	refuses(t, of(t, 0, nil), lits(-1, 1), api.ErrLit)
	refuses(t, new(base.Base), lits(1), api.ErrLit)
}

// P20.1: the first ones, at the ends of the variables, twice, none.
func TestFirst(t *testing.T) {
	b := example(t)
	tells(t, b, lits(), 0, Trail{lits(1, 2), ids(1, 2), 0})
	tells(t, b, lits(5), 0, Trail{lits(5, 1, 2), ids(1, 2), 0})
	tells(t, b, lits(-5), 0, Trail{lits(-5, 1, 2, -4, 3), ids(1, 2, 5, 3), 0})
	tells(t, b, lits(5, 5, 1, 5, 1), 0, Trail{lits(5, 1, 2), ids(2), 0})
	tells(t, b, lits(2, 1), 0, Trail{lits(2, 1), nil, 0})
	tells(t, b, lits(4, -3, 2, 1, 5), 0, Trail{lits(4, -3, 2, 1, 5), nil, 0})
	tells(t, b, lits(-1), 0, Trail{lits(-1), nil, 1})
	tells(t, b, lits(-4, -3, -3), 0, Trail{lits(-4, -3, 1, 2), ids(1, 2), 3})
	most := of(t, api.MaxVar, lits(-api.MaxVar, 1))
	tells(t, most, lits(api.MaxVar), 0, Trail{lits(api.MaxVar, 1), ids(1), 0})
	tells(t, most, lits(-1), 0, Trail{lits(-1, -api.MaxVar), ids(1), 0})
	refuses(t, most, lits(api.MaxVar+1), api.ErrLit)
}

// P20.1: without one clause, or one that is none.
func TestWithout(t *testing.T) {
	b := example(t)
	mustAdd(t, b, lits(2, 5), ids(1, 2), true)
	mustAdd(t, b, lits(5, 2, 5), ids(1, 2), true)
	if e := b.Delete(6); e != api.OK {
		t.Fatal(e)
	}
	for _, without := range []int64{0, 6, 8, -1, -2, math.MaxInt64, math.MinInt64, 5, 7, 4} {
		tells(t, b, nil, without, Trail{lits(1, 2), ids(1, 2), 0})
	}
	tells(t, b, nil, 1, Trail{})
	tells(t, b, nil, 2, Trail{lits(1), ids(1), 0})
	tells(t, b, lits(-2), 2, Trail{lits(-2, 1, 4, 5), ids(1, 4, 5), 0})
	tells(t, b, lits(-2), 1, Trail{lits(-2, -1, 4, 5), ids(2, 4, 7), 0})
	tells(t, b, lits(-2), 0, Trail{lits(-2, 1), ids(1), 2})
	tells(t, of(t, 1, nil, lits(1)), nil, 1, Trail{lits(1), ids(2), 0})
	tells(t, of(t, 1, nil, lits(1)), nil, 0, Trail{nil, nil, 1})
	tells(t, of(t, 1, lits(1), nil), nil, 0, Trail{lits(1), ids(1), 2})
}

// P20.1: bases of every shape.
func TestShapes(t *testing.T) {
	tells(t, of(t, 0), nil, 0, Trail{})
	tells(t, new(base.Base), nil, 0, Trail{})
	tells(t, of(t, 0, nil), nil, 0, Trail{Conflict: 1})
	tells(t, of(t, 3), lits(3, -1), 0, Trail{True: lits(3, -1)})
	tells(t, of(t, 2, lits(2), lits(1), lits(2), lits(1)), nil, 0, Trail{lits(2, 1), ids(1, 2), 0})
	tells(t, of(t, 1, lits(1), lits(-1)), nil, 0, Trail{lits(1), ids(1), 2})
	tells(t, of(t, 1, lits(1), lits(-1)), lits(-1), 0, Trail{lits(-1), nil, 1})
	tells(t, of(t, 2, lits(2, 2, 2), lits(-2, 1, -2, 1)), nil, 0, Trail{lits(2, 1), ids(1, 2), 0})
	tells(t, of(t, 2, lits(2, 1, 2, 1)), lits(-1), 0, Trail{lits(-1, 2), ids(1), 0})
	tells(t, of(t, 2, lits(2, 1, 2, 1)), lits(-2, -1), 0, Trail{lits(-2, -1), nil, 1})
	tells(t, of(t, 2, lits(1, -1), lits(1, 2, -1, 2)), nil, 0, Trail{})
	tells(t, of(t, 2, lits(1, -1), lits(1, 2, -1, 2)), lits(-2), 0, Trail{True: lits(-2)})
	tells(t, of(t, 2, lits(1, -1), lits(1, 2, -1, 2)), lits(1, -2), 0, Trail{True: lits(1, -2)})
	b := of(t, 2, lits(1, 2))
	mustAdd(t, b, lits(1, 2, 1), ids(1), true)
	tells(t, b, lits(-1), 0, Trail{lits(-1, 2), ids(1), 0})
	tells(t, b, lits(-1), 1, Trail{lits(-1, 2), ids(2), 0})
}

// P20.1: of several clauses that could be taken, that of the least id is, also where another one became so earlier.
func TestLeastFirst(t *testing.T) {
	tells(t, of(t, 4, lits(-2, 4), lits(-2, 3), lits(-1, 2), lits(1)), nil, 0, Trail{lits(1, 2, 4, 3), ids(4, 3, 1, 2), 0})
	tells(t, of(t, 4, lits(-4, 3), lits(-2, -3), lits(-1, 2), lits(-1, 4)), lits(1), 0, Trail{lits(1, 2, -3, -4), ids(3, 2, 1), 4})
	tells(t, of(t, 4, lits(-1, 4), lits(-2, -3), lits(-1, 2), lits(-4, 3)), lits(1), 0, Trail{lits(1, 4, 2, -3), ids(1, 3, 2), 4})
	// All have a literal at once, and the conflict is that of the least id, not the one that was false first.
	tells(t, of(t, 3, lits(1, 2, 3), lits(1, 2), lits(1, 3)), lits(-3, -2, -1), 0, Trail{lits(-3, -2, -1), nil, 1})
	tells(t, of(t, 3, lits(3), lits(1, 2), lits(1, 3)), lits(-2, -1), 0, Trail{lits(-2, -1, 3), ids(1), 2})
	tells(t, of(t, 3, lits(1, 2, 3), lits(-1, 2, 3), lits(2, -3)), lits(-2), 0, Trail{lits(-2, -3, 1), ids(3, 1), 2})
}

// P20.1: what a trail's calls answer.
func TestHintsUpto(t *testing.T) {
	b := example(t)
	type pair struct {
		l    api.Lit
		want []int64
	}
	x, _ := Propagate(b, lits(-3), 0)
	if h := x.Hints(); !slices.Equal(h, ids(1, 2, 3, 5)) {
		t.Error(h)
	}
	for _, p := range []pair{{-3, nil}, {1, ids(1)}, {2, ids(1, 2)}, {4, ids(1, 2, 3)}, {5, ids(1, 2, 3, 5)}, {3, nil}, {-1, nil}, {0, nil}, {6, nil}, {math.MinInt32, nil}, {math.MaxInt32, nil}} {
		if h := x.Upto(p.l); !slices.Equal(h, p.want) {
			t.Errorf("Upto(%d): %v", p.l, h)
		}
	}
	x, _ = Propagate(b, lits(-2, 5), 0)
	if h := x.Hints(); !slices.Equal(h, ids(1, 2)) {
		t.Error(h)
	}
	for _, p := range []pair{{-2, nil}, {5, nil}, {1, ids(1)}, {2, nil}} {
		if h := x.Upto(p.l); !slices.Equal(h, p.want) {
			t.Errorf("Upto(%d): %v", p.l, h)
		}
	}
	x, _ = Propagate(b, nil, 1)
	if x.Hints() != nil || x.Upto(1) != nil || (Trail{}).Hints() != nil || (Trail{}).Upto(0) != nil || (Trail{}).Upto(1) != nil {
		t.Error("hints out of nothing")
	}
}

// P20.1: trails that no call made: none panics, and what is not true has no hints.
func TestHandMade(t *testing.T) {
	for _, x := range []Trail{{Reasons: ids(1, 2, 3)}, {True: lits(1, 1), Reasons: ids(1, 2, 3)}, {True: lits(0, 1, 0)}, {Conflict: -1}, {True: lits(5), Conflict: 7}} {
		for _, l := range lits(0, 1, -1, 5, 9, math.MinInt32) {
			if h := x.Upto(l); len(h) > len(x.Reasons) || len(h) > 0 && !slices.Contains(x.True, l) {
				t.Errorf("%v Upto(%d): %v", x, l, h)
			}
		}
		if h := x.Hints(); !slices.Equal(h[:len(x.Reasons)], x.Reasons) {
			t.Errorf("%v: %v", x, h)
		}
	}
	if h := (Trail{Conflict: -1}).Hints(); !slices.Equal(h, ids(-1)) {
		t.Error(h)
	}
}

// done asks for steps, and that they are done, and no others.
func done(t *testing.T, b *base.Base, limit, want int, steps []api.Step) {
	t.Helper()
	had := len(b.Steps())
	if n, e := Units(b, limit); n != want || e != api.OK {
		t.Errorf("Units(%d): %d %d, not %d", limit, n, e, want)
	}
	if got := b.Steps()[had:]; !alike(got, steps) {
		t.Errorf("Units(%d): %v, not %v", limit, got, steps)
	}
}

func alike(a, b []api.Step) bool {
	return slices.EqualFunc(a, b, func(x, y api.Step) bool {
		return x.Kind == y.Kind && x.ID == y.ID && slices.Equal(x.Lits, y.Lits) && slices.Equal(x.Hints, y.Hints)
	})
}

func live(t *testing.T, b *base.Base, want ...api.Entry) {
	t.Helper()
	got := b.Entries()
	if !slices.EqualFunc(got, want, func(x, y api.Entry) bool {
		return x.ID == y.ID && x.Red == y.Red && slices.Equal(x.Lits, y.Lits)
	}) {
		t.Errorf("live: %v, not %v", got, want)
	}
}

// P20.2: what is wrong, the first of it.
func TestUnitsWrong(t *testing.T) {
	for _, limit := range []int{-1, math.MinInt, 0, 1, math.MaxInt} {
		if n, e := Units(nil, limit); n != 0 || e != api.ErrNil {
			t.Errorf("Units(nil, %d): %d %d", limit, n, e)
		}
	}
	b := example(t)
	for _, limit := range []int{-1, math.MinInt} {
		if n, e := Units(b, limit); n != 0 || e != api.ErrArg {
			t.Errorf("Units(%d): %d %d", limit, n, e)
		}
	}
	if len(b.Rules()) > 0 {
		t.Error(b.Rules())
	}
}

// P20.2: a root with a conflict: the empty clause, once.
func TestRootConflict(t *testing.T) {
	b := of(t, 2, lits(1), lits(2), lits(-1, -2))
	done(t, b, 0, 0, nil)
	done(t, b, 9, 1, []api.Step{{Kind: api.SAdd, ID: 4, Hints: ids(1, 2, 3)}})
	done(t, b, 9, 0, nil)
	live(t, b, api.Entry{ID: 1, Lits: lits(1)}, api.Entry{ID: 2, Lits: lits(2)}, api.Entry{ID: 3, Lits: lits(-1, -2)}, api.Entry{ID: 4})
	b = of(t, 1, nil, lits(1), lits(1, 1))
	done(t, b, 9, 0, nil)
	b = of(t, 2, lits(1), lits(-1), nil, lits(1, 2))
	done(t, b, 9, 0, nil)
	b = of(t, 2, lits(1), lits(-1, 1), lits(-1), lits(1, 2))
	done(t, b, 1, 1, []api.Step{{Kind: api.SAdd, ID: 5, Hints: ids(1, 3)}})
}

// P20.2: units that come in, in the root's order, if there is none; repeated literals make a unit no other one.
func TestUnitsComeIn(t *testing.T) {
	b := of(t, 4, lits(-1, 2), lits(1), lits(-2, 3, 3), lits(4, 4), lits(4))
	done(t, b, 2, 2, []api.Step{
		{Kind: api.SAdd, ID: 6, Lits: lits(2), Hints: ids(2, 1)},
		{Kind: api.SAdd, ID: 7, Lits: lits(3), Hints: ids(2, 1, 3)},
	})
	done(t, b, 9, 3, []api.Step{
		{Kind: api.SDel, ID: 7, Hints: ids(1)},
		{Kind: api.SDel, ID: 7, Hints: ids(3)},
		{Kind: api.SDel, ID: 7, Hints: ids(5)},
	})
	live(t, b, api.Entry{ID: 2, Lits: lits(1)}, api.Entry{ID: 4, Lits: lits(4, 4)}, api.Entry{ID: 6, Lits: lits(2)}, api.Entry{ID: 7, Lits: lits(3)})
	done(t, b, 9, 0, nil)
}

// P20.2: a clause goes by the unit of its first literal, as it stands, that is true; a redundant unit by which one goes that is not is kept.
func TestTrueGo(t *testing.T) {
	b := of(t, 3, lits(3), lits(2, 1), lits(2, -3, 3), lits(1), lits(2, 3, 1), lits(3, -3), lits(1, 3))
	done(t, b, 9, 5, []api.Step{
		{Kind: api.SDel, ID: 7, Hints: ids(2)},
		{Kind: api.SDel, ID: 7, Hints: ids(3)},
		{Kind: api.SDel, ID: 7, Hints: ids(5)},
		{Kind: api.SDel, ID: 7, Hints: ids(6)},
		{Kind: api.SDel, ID: 7, Hints: ids(7)},
	})
	var by []int64
	for _, r := range b.Rules() {
		by = append(by, r.By)
	}
	if !slices.Equal(by, ids(4, 1, 1, 1, 4)) {
		t.Error(by)
	}
	b = of(t, 2, lits(1, 2), lits(1, -2))
	mustAdd(t, b, lits(1, 1), ids(1, 2), true)
	mustAdd(t, b, lits(1), ids(1, 2), false)
	done(t, b, 9, 3, []api.Step{{Kind: api.SDel, ID: 4, Hints: ids(1)}, {Kind: api.SDel, ID: 4, Hints: ids(2)}, {Kind: api.SDel, ID: 4, Hints: ids(4)}})
	live(t, b, api.Entry{ID: 3, Lits: lits(1, 1)})
	b = of(t, 2, lits(1, 2), lits(1, -2))
	mustAdd(t, b, lits(1), ids(1, 2), true)
	mustAdd(t, b, lits(1), ids(1, 2), true)
	done(t, b, 1, 1, []api.Step{{Kind: api.SDel, ID: 4, Hints: ids(1)}})
	live(t, b, api.Entry{ID: 2, Lits: lits(1, -2)}, api.Entry{ID: 3, Lits: lits(1)}, api.Entry{ID: 4, Lits: lits(1), Red: true})
	b = of(t, 2, lits(1))
	mustAdd(t, b, lits(2, 1), ids(1), true)
	mustAdd(t, b, lits(2, 1), ids(1), false)
	done(t, b, 9, 2, []api.Step{{Kind: api.SDel, ID: 3, Hints: ids(2)}, {Kind: api.SDel, ID: 3, Hints: ids(3)}})
}

// P20.2: false literals go, redundant clauses stay so, each unit is named once, in order, and what is left stands as it stood.
func TestFalseGo(t *testing.T) {
	b := of(t, 5, lits(-2), lits(5, 2, 4, 1, 5, 2), lits(-1), lits(3, 3, 4))
	mustAdd(t, b, lits(1, 4, 3, 1, 4), ids(4), true)
	done(t, b, 1, 1, []api.Step{
		{Kind: api.SAdd, ID: 6, Lits: lits(5, 4, 5), Hints: ids(1, 3, 2)},
		{Kind: api.SDel, ID: 6, Hints: ids(2)},
	})
	done(t, b, 1, 1, []api.Step{
		{Kind: api.SAdd, ID: 7, Lits: lits(4, 3, 4), Hints: ids(3, 5)},
		{Kind: api.SDel, ID: 7, Hints: ids(5)},
	})
	done(t, b, 1, 0, nil)
	live(t, b, api.Entry{ID: 1, Lits: lits(-2)}, api.Entry{ID: 3, Lits: lits(-1)}, api.Entry{ID: 4, Lits: lits(3, 3, 4)}, api.Entry{ID: 6, Lits: lits(5, 4, 5)}, api.Entry{ID: 7, Lits: lits(4, 3, 4), Red: true})
}

// P20.2: a clause that has both signs of a variable without a value, and false ones.
func TestBothSigns(t *testing.T) {
	b := of(t, 3, lits(-2), lits(1, 2, -1))
	done(t, b, 9, 1, []api.Step{
		{Kind: api.SAdd, ID: 3, Lits: lits(1, -1), Hints: ids(1, 2)},
		{Kind: api.SDel, ID: 3, Hints: ids(2)},
	})
}

// P20.2: each number up to what there is to do, and beyond: the steps are the first ones of all; and going on does the rest.
func TestLimits(t *testing.T) {
	all := example(t)
	if n, e := Units(all, math.MaxInt); n != 5 || e != api.OK {
		t.Fatal(n, e)
	}
	for limit := range 8 {
		b := example(t)
		n, e := Units(b, limit)
		if n != min(limit, 5) || e != api.OK {
			t.Errorf("Units(%d): %d %d", limit, n, e)
		}
		if part := b.Steps(); !alike(part, all.Steps()[:len(part)]) {
			t.Errorf("Units(%d): %v", limit, part)
		}
		if n, e := Units(b, 9); n != 5-min(limit, 5) || e != api.OK || !alike(b.Steps(), all.Steps()) || !reflect.DeepEqual(b.Rules(), all.Rules()) {
			t.Errorf("Units(%d), Units(9): %d %d, %v", limit, n, e, b.Steps())
		}
	}
}

// P20.2: a base that is full ends it: what was done ahead is counted, and stays.
func TestFull(t *testing.T) {
	f := api.Formula{Vars: 5, Clauses: []api.Clause{lits(1), lits(-1, 2), lits(-2, 3, 4), lits(2, 4), lits(-4, 5, -1)}}
	steps := []api.Step{{Kind: api.SAdd, Lits: lits(2), Hints: ids(1, 2)}, {Kind: api.SDel, Hints: ids(2)}, {Kind: api.SAdd, Lits: lits(3, 4)}, {Kind: api.SDel, Hints: ids(3)}}
	for _, y := range []struct{ room, want int }{{0, 0}, {2, 2}, {3, 2}} {
		b := sample.Full(f, y.room)
		n, e := Units(b, 9)
		if n != y.want || e != api.ErrLimit {
			t.Errorf("room for %d: %d %d", y.room, n, e)
		}
		for i, s := range b.Steps()[api.MaxSteps-y.room:] {
			if s.Kind != steps[i].Kind || !slices.Equal(s.Lits, steps[i].Lits) {
				t.Errorf("room for %d: %v is not %v", y.room, s, steps[i])
			}
		}
		if n, e := Units(b, 0); n != 0 || e != api.OK {
			t.Error(n, e)
		}
	}
	b := sample.Full(api.Formula{Vars: 1, Clauses: []api.Clause{lits(1), lits(-1)}}, 0)
	if n, e := Units(b, 9); n != 0 || e != api.ErrLimit {
		t.Error(n, e)
	}
	if _, empty := b.Empty(); empty {
		t.Error("an empty clause came in")
	}
}
