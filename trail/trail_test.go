package trail

import (
	"fmt"
	"math"
	"slices"
	"testing"

	"threshing/api"
)

// telling tells what calls answered, one behind the other.
func telling(answers ...any) string { return fmt.Sprintln(answers...) }

func decide(x *Trail, l api.Lit) string { return fmt.Sprint(int(x.Decide(l))) }

func assign(x *Trail, l api.Lit, reason int) string { return fmt.Sprint(int(x.Assign(l, reason))) }

func back(x *Trail, level int) string {
	c, e := x.Back(level)
	return fmt.Sprint(c, int(e))
}

func next(x *Trail) string { return fmt.Sprint(x.Next()) }

func model(x *Trail) string { return fmt.Sprint(x.Model()) }

func move(x *Trail, to ...int) string { return fmt.Sprint(int(x.Move(to))) }

// known3 tells what is known of a variable.
func known3(x *Trail, v int) string { return fmt.Sprint(x.Level(v), x.Reason(v), x.Place(v)) }

// The chapter's examples.
func TestExamples(t *testing.T) {
	x, e := New(3)
	for i, y := range []struct{ got, want string }{
		{fmt.Sprint(int(e)), "0"},
		{assign(x, 1, None), "0"},
		{decide(x, -2), "0"},
		{assign(x, 3, 7), "0"},
		{fmt.Sprint(x.Lits(), x.Levels(), x.Value(2), x.Level(3), x.Reason(3), x.Place(3), x.Level(1)), "[1 -2 3] 1 -1 1 7 2 0"},
		{next(x), "1 true"},
		{next(x), "-2 true"},
		{next(x), "3 true"},
		{next(x), "0 false"},
		{model(x), "[true false true] true"},
		{assign(x, 2, 5), "100"},
		{decide(x, 4), "4"},
		{assign(x, 1, -2), "160"},
		{back(x, 2), "[] 101"},
		{back(x, 0), "[3 -2] 0"},
		{fmt.Sprint(x.Lits()), "[1]"},
		{next(x), "0 false"},
	} {
		if y.got != y.want {
			t.Errorf("%d: %s, want %s", i, y.got, y.want)
		}
	}
}

// example is the trail that the chapter's examples begin with, beside the plain one.
func example(t *testing.T) *pair {
	t.Helper()
	x := newPair(t, 3)
	x.like("Assign, Decide, Assign", telling(x.assign(1, None), x.decide(-2), x.assign(3, 7)), telling(api.OK, api.OK, api.OK))
	x.agree()
	return x
}

// The same calls beside the plain one, which must be right if it is to stand for the chapter.
func TestExamplesPlain(t *testing.T) {
	x := example(t)
	x.like("the row", x.p.row, "[{1 false -1} {-2 true -1} {3 false 7}]")
	for _, want := range []api.Lit{1, -2, 3} {
		l, ok := x.next()
		x.like("Next", telling(l, ok), telling(want, true))
	}
	l, ok := x.next()
	x.like("Next", telling(l, ok), telling(0, false))
	x.agree()
	x.like("wrong", telling(int(x.assign(2, 5)), int(x.decide(4)), int(x.assign(1, -2))), telling(100, 4, 160))
	_, e := x.back(2)
	x.like("Back", int(e), 101)
	x.agree()
	gone, e := x.back(0)
	x.like("Back", telling(gone, int(e)), telling(lits(3, -2), 0))
	l, ok = x.next()
	x.like("Next", telling(l, ok), telling(0, false))
	x.like("the row", x.p.row, "[{1 false -1}]")
	x.agree()
}

// None is a number that callers write.
func TestNone(t *testing.T) {
	if None != -1 {
		t.Error(None)
	}
}

// P10.1: how many variables there may be, and what a new trail is.
func TestNew(t *testing.T) {
	for _, vars := range []int{math.MinInt, math.MinInt + 1, -1 << 32, -api.MaxVar, -2, -1, 1048577, 1048578, 1 << 31, 1 << 32, 1<<32 + 3, 1 << 62, math.MaxInt} {
		if x, e := New(vars); x != nil || e != api.ErrArg {
			t.Errorf("New(%d): %v %d", vars, x, e)
		}
	}
	for _, vars := range []int{0, 1, 2, 3, 100} {
		x := newPair(t, vars)
		x.agree()
		x.next()
		x.back(0)
		x.agree()
	}
	for _, vars := range []int{1048575, 1048576} {
		x, e := New(vars)
		if e != api.OK || x.Vars() != vars || x.Len() != 0 || x.Levels() != 0 || len(x.Lits()) != 0 {
			t.Fatalf("New(%d): %d", vars, e)
		}
		if got := telling(decide(x, api.Lit(vars)), decide(x, api.Lit(vars+1)), assign(x, api.Lit(-vars-1), 0), assign(x, -1, 4), known3(x, vars), known3(x, vars+1), known3(x, 1), x.Lits(), model(x)); got != telling(0, 4, 4, 0, "1 -1 0", "-1 -1 -1", "1 4 1", lits(api.Lit(vars), -1), "[] false") {
			t.Errorf("New(%d): %s", vars, got)
		}
	}
}

// P10.1: of a nil trail calls with an error answer ErrNil, whatever else is wrong; Level, Reason and Place -1; all else nothing, 0, false.
func TestNil(t *testing.T) {
	var x *Trail
	for _, l := range []api.Lit{leastLit, leastLit + 1, -1048577, -1, 0, 1, 2, 1048576, 1048577, greatestLit} {
		if x.Decide(l) != api.ErrNil || x.Value(l) != 0 {
			t.Errorf("%d: %d %d", l, x.Decide(l), x.Value(l))
		}
		for _, reason := range []int{math.MinInt, -2, None, 0, 1, math.MaxInt} {
			if e := x.Assign(l, reason); e != api.ErrNil {
				t.Errorf("Assign(%d, %d): %d", l, reason, e)
			}
		}
	}
	for _, n := range []int{math.MinInt, -2, -1, 0, 1, 2, math.MaxInt} {
		if got := telling(back(x, n), known3(x, n), move(x, n)); got != telling("[] 1", "-1 -1 -1", 1) {
			t.Errorf("%d: %s", n, got)
		}
	}
	if got := telling(next(x), x.Vars(), x.Levels(), x.Lits(), x.Len(), model(x), move(x), move(x, 0)); got != telling("0 false", 0, 0, lits(), 0, "[] false", 1, 1) {
		t.Error(got)
	}
}

// A trail that was not made by New has no variables: no call of it panics.
func TestNotMade(t *testing.T) {
	x := &pair{t, &Trail{}, &plainTrail{}}
	for range 2 {
		x.agree()
		x.like("wrong", telling(int(x.decide(1)), int(x.assign(-1, 0)), int(x.assign(0, -2)), int(x.move(nil))), telling(4, 4, 4, 0))
		x.next()
		x.back(0)
		x.back(1)
	}
}

// P10.2: which literals there are: all of variables from 1 to Vars, and no others.
func TestLits(t *testing.T) {
	for vars := range 5 {
		all := []api.Lit{leastLit, leastLit + 1, -1 << 30, 1 << 30, greatestLit}
		for l := api.Lit(-8); l <= 8; l++ {
			all = append(all, l)
		}
		for _, l := range all {
			want := api.ErrLit
			if l != 0 && l >= api.Lit(-vars) && l <= api.Lit(vars) {
				want = api.OK
			}
			x, y := newPair(t, vars), newPair(t, vars)
			x.like(fmt.Sprintf("%d: Decide(%d)", vars, l), int(x.decide(l)), int(want))
			y.like(fmt.Sprintf("%d: Assign(%d)", vars, l), int(y.assign(l, 3)), int(want))
			x.agree()
			y.agree()
			if want == api.OK {
				x.like("Value", telling(x.x.Value(l), x.x.Value(-l), x.x.Levels()), telling(1, -1, 1))
				y.like("Value", telling(y.x.Value(l), y.x.Value(-l), y.x.Levels()), telling(1, -1, 0))
			}
		}
	}
}

// P10.2: which reasons there are: None, and numbers from 0 on.
func TestReasons(t *testing.T) {
	for _, reason := range []int{math.MinInt, math.MinInt + 1, -1 << 32, leastLit, -3, -2} {
		x := newPair(t, 2)
		x.like("Assign", int(x.assign(1, reason)), 160)
		x.agree()
	}
	for _, reason := range []int{None, 0, 1, 2, greatestLit, 1 << 31, 1<<32 - 1, 1 << 32, 1 << 62, math.MaxInt - 1, math.MaxInt} {
		x := newPair(t, 2)
		x.like("Assign", telling(int(x.assign(-2, reason)), x.x.Reason(2), x.x.Level(2), x.x.Place(2)), telling(0, reason, 0, 0))
		x.agree()
		x.decide(1)
		x.back(0)
		x.agree()
	}
}

// P10.2: a variable has a value already, as the literal or its negation, decided or assigned, at level 0 or above.
func TestTwice(t *testing.T) {
	puts := []func(x *pair, l api.Lit) api.Errno{
		func(x *pair, l api.Lit) api.Errno { return x.decide(l) },
		func(x *pair, l api.Lit) api.Errno { return x.assign(l, None) },
		func(x *pair, l api.Lit) api.Errno { return x.assign(l, 0) },
		func(x *pair, l api.Lit) api.Errno { return x.assign(l, 9) },
	}
	for _, first := range puts {
		for _, second := range puts {
			for _, l := range []api.Lit{1, -1, 2, -2} {
				for _, above := range []bool{false, true} {
					x := newPair(t, 3)
					if above {
						x.decide(3)
					}
					first(x, l)
					x.like("again", telling(int(second(x, l)), int(second(x, -l))), telling(100, 100))
					x.agree()
					x.back(0)
					x.agree()
				}
			}
		}
	}
}

// P10.2: of the errors that apply, ErrLit comes first, then ErrReason, then ErrValue.
func TestOrder(t *testing.T) {
	x := newPair(t, 2)
	x.assign(1, 5)
	for _, l := range []api.Lit{leastLit, -3, 0, 3, greatestLit} {
		for _, reason := range []int{math.MinInt, -2, None, 0, math.MaxInt} {
			x.like("Assign", int(x.assign(l, reason)), 4)
		}
		x.like("Decide", int(x.decide(l)), 4)
	}
	for _, l := range []api.Lit{1, -1, 2, -2} {
		x.like("Assign", telling(int(x.assign(l, -2)), int(x.assign(l, math.MinInt))), telling(160, 160))
	}
	for _, l := range []api.Lit{1, -1} {
		x.like("Assign", telling(int(x.assign(l, None)), int(x.assign(l, 0)), int(x.decide(l))), telling(100, 100, 100))
	}
	x.agree()
}

// P10.2: Decide begins a level, with the reason None; Assign is in the last one, with or without a reason.
func TestLevels(t *testing.T) {
	x := newPair(t, 8)
	for i, y := range []struct {
		l      api.Lit
		reason int // -2: it is decided
		want   string
	}{
		{-5, None, "0 -1 0"}, {1, 3, "0 3 1"}, {4, -2, "1 -1 2"}, {-2, -2, "2 -1 3"}, {8, 0, "2 0 4"}, {-3, None, "2 -1 5"}, {7, -2, "3 -1 6"}, {6, 3, "3 3 7"},
	} {
		if y.reason == -2 {
			x.like("Decide", int(x.decide(y.l)), 0)
		} else {
			x.like("Assign", int(x.assign(y.l, y.reason)), 0)
		}
		x.agree()
		x.like(fmt.Sprint("put ", i), known3(x.x, int(plainVar(y.l))), y.want)
	}
	x.like("Lits", telling(x.x.Lits(), x.x.Len(), x.x.Levels()), telling(lits(-5, 1, 4, -2, 8, -3, 7, 6), 8, 3))
}

// three is a trail of the levels 0 to 3: 1 2, -3 4 -5, 6, 7 8.
func three(t *testing.T) *pair {
	t.Helper()
	x := newPair(t, 9)
	x.assign(1, None)
	x.assign(2, 0)
	x.decide(-3)
	x.assign(4, 1)
	x.assign(-5, None)
	x.decide(6)
	x.decide(7)
	x.assign(8, 40)
	x.like("Lits", telling(x.x.Lits(), x.x.Levels()), telling(lits(1, 2, -3, 4, -5, 6, 7, 8), 3))
	x.agree()
	return x
}

// P10.3: Back to each level there is, and to those that are none; what goes is told, the last one first.
func TestBack(t *testing.T) {
	for _, y := range []struct {
		level int
		want  string
		left  api.Clause
	}{
		{math.MinInt, "[] 101", lits(1, 2, -3, 4, -5, 6, 7, 8)},
		{-1 << 32, "[] 101", lits(1, 2, -3, 4, -5, 6, 7, 8)},
		{-1, "[] 101", lits(1, 2, -3, 4, -5, 6, 7, 8)},
		{0, "[8 7 6 -5 4 -3] 0", lits(1, 2)},
		{1, "[8 7 6] 0", lits(1, 2, -3, 4, -5)},
		{2, "[8 7] 0", lits(1, 2, -3, 4, -5, 6)},
		{3, "[] 0", lits(1, 2, -3, 4, -5, 6, 7, 8)},
		{4, "[] 101", lits(1, 2, -3, 4, -5, 6, 7, 8)},
		{1 << 32, "[] 101", lits(1, 2, -3, 4, -5, 6, 7, 8)},
		{1<<32 + 1, "[] 101", lits(1, 2, -3, 4, -5, 6, 7, 8)},
		{math.MaxInt, "[] 101", lits(1, 2, -3, 4, -5, 6, 7, 8)},
	} {
		x := three(t)
		gone, e := x.back(y.level)
		x.like(fmt.Sprint("Back ", y.level), telling(fmt.Sprint(gone, int(e)), x.x.Lits()), telling(y.want, y.left))
		x.agree()
		// Once more there, nothing goes.
		if e == api.OK {
			gone, e = x.back(y.level)
			x.like(fmt.Sprint("Back again ", y.level), telling(gone, int(e)), telling(lits(), 0))
			_, e = x.back(y.level + 1)
			x.like(fmt.Sprint("Back past ", y.level), int(e), 101)
		}
		x.agree()
	}
}

// P10.3: a trail that is all level 0, one that is empty, and one whose level 0 is empty.
func TestBackToNothing(t *testing.T) {
	x := newPair(t, 2)
	for _, level := range []int{-1, 0, 1} {
		x.back(level)
		x.agree()
	}
	x.assign(2, 3)
	x.next()
	for _, level := range []int{-1, 0, 1} {
		x.back(level)
		x.agree()
	}
	y := newPair(t, 2)
	y.decide(2)
	y.decide(-1)
	gone, e := y.back(0)
	y.like("Back", telling(gone, int(e), y.x.Len(), y.x.Levels()), telling(lits(-1, 2), 0, 0, 0))
	y.agree()
}

// P10.3, P10.4: the head stays where it is behind what was taken back, and comes back with what was ahead of it, wherever it is.
func TestHead(t *testing.T) {
	for head := range 9 {
		for level := range 4 {
			x := three(t)
			for range head {
				x.next()
			}
			x.back(level)
			x.agree()
			left := []int{2, 5, 6, 8}[level]
			for i := min(head, left); i < left; i++ {
				l, ok := x.next()
				x.like(fmt.Sprintf("head %d, back %d: Next", head, level), telling(l, ok), telling(x.p.row[i].lit, true))
			}
			l, ok := x.next()
			x.like("Next at the end", telling(l, ok), telling(0, false))
			// On again: just what has come since.
			x.decide(-9)
			if level < 3 {
				x.assign(-7, 2)
			}
			x.agree()
			l, ok = x.next()
			x.like("Next", telling(l, ok), telling(-9, true))
			l, ok = x.next()
			x.like("Next", telling(l, ok), telling(map[bool]api.Lit{true: -7}[level < 3], level < 3))
			l, ok = x.next()
			x.like("Next", telling(l, ok), telling(0, false))
			x.agree()
		}
	}
}

// P10.4: Next at the end changes nothing, however often; of an empty trail too.
func TestNextAtEnd(t *testing.T) {
	x := newPair(t, 3)
	for _, l := range []api.Lit{3, -1, 2} {
		for range 3 {
			got, ok := x.next()
			x.like("Next", telling(got, ok), telling(0, false))
			x.agree()
		}
		x.decide(l)
		got, ok := x.next()
		x.like("Next", telling(got, ok), telling(l, true))
	}
	// A call that answers an error hands nothing to Next.
	x.back(1)
	x.assign(3, 1)
	x.assign(4, 1)
	x.assign(2, -2)
	got, ok := x.next()
	x.like("Next", telling(got, ok), telling(0, false))
	x.assign(2, 1)
	got, ok = x.next()
	x.like("Next", telling(got, ok), telling(2, true))
}

// P10.5: of what is no variable, and of one without a value, Level, Reason and Place are -1.
func TestNoVariable(t *testing.T) {
	x := three(t)
	for _, v := range []int{math.MinInt, math.MinInt + 1, -1<<32 + 1, leastLit, -9, -8, -3, -2, -1, 0, 9, 10, 11, greatestLit, 1 << 31, 1 << 32, 1<<32 + 1, 1<<32 + 8, 1 << 62, math.MaxInt} {
		x.like(fmt.Sprint(v), known3(x.x, v), "-1 -1 -1")
	}
	x.back(1)
	for v, want := range []string{"-1 -1 -1", "0 -1 0", "0 0 1", "1 -1 2", "1 1 3", "1 -1 4", "-1 -1 -1", "-1 -1 -1", "-1 -1 -1", "-1 -1 -1"} {
		x.like(fmt.Sprint(v), known3(x.x, v), want)
	}
}

// P10.5: Value of 0, of a literal past Vars, of one without a value, and of each that has one.
func TestValue(t *testing.T) {
	x := three(t)
	for _, l := range []api.Lit{leastLit, leastLit + 1, -1 << 30, -11, -10, -9, 0, 9, 10, 11, 1 << 30, greatestLit} {
		x.like(fmt.Sprint("Value ", l), x.x.Value(l), 0)
	}
	for _, l := range lits(1, 2, -3, 4, -5, 6, 7, 8) {
		x.like(fmt.Sprint("Value ", l), telling(x.x.Value(l), x.x.Value(-l)), telling(1, -1))
	}
	x.back(0)
	for _, l := range lits(-3, 4, -5, 6, 7, 8) {
		x.like(fmt.Sprint("Value ", l), telling(x.x.Value(l), x.x.Value(-l)), telling(0, 0))
	}
}

// P10.6: of no variables, of one that lacks a variable, whichever, and of a whole one, by all values and in all orders.
func TestModel(t *testing.T) {
	if x := newPair(t, 0); model(x.x) != "[] true" {
		t.Error(model(x.x))
	}
	for _, order := range [][]api.Lit{{1, 2, 3}, {1, 3, 2}, {2, 1, 3}, {2, 3, 1}, {3, 1, 2}, {3, 2, 1}} {
		for values := range 8 {
			x := newPair(t, 3)
			want := make(api.Model, 3)
			for i, v := range order {
				x.like("Model", model(x.x), "[] false")
				l := v
				if values>>i&1 == 0 {
					l = -v
				}
				want[v-1] = l > 0
				if i%2 == values%2 {
					x.decide(l)
				} else {
					x.assign(l, i)
				}
			}
			x.like("Model", model(x.x), fmt.Sprint(want, true))
			x.agree()
			if x.p.levels() > 0 {
				x.back(0)
				x.like("Model", model(x.x), "[] false")
			}
		}
	}
}

// P10.7: each reason has its new number; None stays.
func TestMove(t *testing.T) {
	x := newPair(t, 6)
	x.assign(1, 2)
	x.assign(-2, None)
	x.decide(3)
	x.assign(4, 0)
	x.assign(-5, 2)
	x.like("Move", int(x.move([]int{math.MaxInt, -7, 1})), 0)
	x.agree()
	reasons := func() string {
		return fmt.Sprint(x.x.Reason(1), x.x.Reason(2), x.x.Reason(3), x.x.Reason(4), x.x.Reason(5), x.x.Reason(6))
	}
	x.like("reasons", reasons(), fmt.Sprint(1, -1, -1, math.MaxInt, 1, -1))
	// Only what is on the trail has a reason: what was taken back is not asked for.
	x.like("Move", int(x.move([]int{0, 0})), 160)
	x.back(0)
	x.like("Move", int(x.move([]int{-1, 0})), 0)
	x.like("reasons", reasons(), "0 -1 -1 -1 -1 -1")
	x.agree()
	// And what comes then has the reason it is given.
	x.assign(4, 1)
	x.like("reasons", reasons(), "0 -1 -1 1 -1 -1")
	x.like("Move", telling(int(x.move([]int{1, 0})), reasons()), telling(0, "1 -1 -1 0 -1 -1"))
	x.agree()
}

// P10.7: a row too short, a number below 0 at a reason on the trail and elsewhere, no reasons at all.
func TestMoveWrong(t *testing.T) {
	for _, y := range []struct {
		to   []int
		want api.Errno
	}{
		{nil, 160},
		{[]int{}, 160},
		{[]int{0}, 160},
		{[]int{0, 0, 0}, 160},
		{[]int{0, 0, 0, -1}, 160},
		{[]int{0, 0, 0, None}, 160},
		{[]int{0, 0, 0, math.MinInt}, 160},
		{[]int{0, -1, 0, 0}, 160},
		{[]int{0, math.MinInt, 0, 0, 0, 0}, 160},
		{[]int{-1, 8, -1, 9}, 0},
		{[]int{math.MinInt, 8, math.MinInt, 9, -1, -1}, 0},
		{[]int{0, 0, 0, 0}, 0},
		{[]int{5, math.MaxInt, 5, 0}, 0},
	} {
		// The wrong one may be the first of the trail, or the last.
		for _, order := range [][]int{{1, 3}, {3, 1}, {1, 3, 3}, {3, 1, 1}} {
			x := newPair(t, 6)
			x.assign(6, None)
			x.assign(1, order[0])
			x.decide(-5)
			for i, reason := range order[1:] {
				x.like("Assign", int(x.assign(api.Lit(-2-i), reason)), 0)
			}
			x.like(fmt.Sprint("Move ", y.to), int(x.move(y.to)), int(y.want))
			x.agree()
		}
	}
	for _, to := range [][]int{nil, {}, {-1}, {math.MinInt, 3}, {5}} {
		x := newPair(t, 3)
		x.like("Move of nothing", int(x.move(to)), 0)
		x.assign(2, None)
		x.decide(-1)
		x.assign(3, None)
		x.like("Move without reasons", int(x.move(to)), 0)
		x.agree()
		x.like("reasons", fmt.Sprint(x.x.Reason(1), x.x.Reason(2), x.x.Reason(3)), "-1 -1 -1")
	}
}

// P10.7: the greatest reason is no place of any row.
func TestMoveGreatest(t *testing.T) {
	x := newPair(t, 2)
	x.assign(1, math.MaxInt)
	x.assign(2, 1<<32)
	for _, to := range [][]int{nil, {0}, make([]int, 1000)} {
		x.like("Move", int(x.move(to)), 160)
	}
	x.agree()
	if !slices.Equal(x.x.Lits(), lits(1, 2)) || x.x.Reason(1) != math.MaxInt || x.x.Reason(2) != 1<<32 {
		t.Error(x.x.Lits(), x.x.Reason(1), x.x.Reason(2))
	}
}
