package watch

import (
	"fmt"
	"math"
	"slices"
	"testing"

	"threshing/api"
	"threshing/arena"
	"threshing/trail"
)

const (
	leastLit    = math.MinInt32
	greatestLit = math.MaxInt32
)

// attaching tells what Attach answers.
func attaching(w *Watch, r arena.Ref) string {
	l, e := w.Attach(r)
	return fmt.Sprint(int(l), int(e))
}

func propagating(w *Watch) string {
	r, bad := w.Propagate()
	return fmt.Sprint(int(r), bad)
}

// The chapter's examples.
func TestExamples(t *testing.T) {
	p := newPair(t, 6, lits(-1, 2), lits(-2, 3, 4), lits(-3, -4))
	for _, y := range []struct {
		back int // -1: no going back
		l    api.Lit
		want api.Clause
	}{{-1, 1, lits(1, 2)}, {-1, -3, lits(1, 2, -3, 4)}, {1, -4, lits(1, 2, -4, 3)}} {
		if y.back >= 0 {
			p.back(y.back)
		}
		p.decide(y.l)
		r, bad := p.propagate()
		p.like("Propagate", fmt.Sprintln(r, bad, p.x.Lits()), fmt.Sprintln(0, false, y.want))
	}
	p = newPair(t, 6)
	p.decide(3)
	p.decide(-1)
	p.decide(4)
	p.like("false at level 2 of 3", attaching(p.w, p.lay(1, 5)), "0 7")
	p.back(2)
	p.like("false at level 2 of 2", attaching(p.w, p.lay(1, 5)), "5 0")
}

// P11.1: New of what is not there, and of what is.
func TestNew(t *testing.T) {
	a := arena.New(100)
	x, _ := trail.New(3)
	for _, y := range []struct {
		a *arena.Arena
		x *trail.Trail
	}{{nil, x}, {a, nil}, {nil, nil}} {
		if w, e := New(y.a, y.x); w != nil || e != api.ErrNil {
			t.Errorf("New(%v, %v): %v %d", y.a, y.x, w, e)
		}
	}
	w, e := New(a, x)
	if w == nil || e != api.OK || w.Count() != 0 || w.Ticks() != 0 || propagating(w) != "0 false" || w.Moved(nil) != api.OK {
		t.Errorf("New: %v %d", w, e)
	}
}

// P11.1: what is in the arena, and on the trail, when a watcher is made of them: nothing is attached.
func TestNewOverSome(t *testing.T) {
	a := arena.New(100)
	x, _ := trail.New(3)
	r, _ := a.Put(1, lits(-1, 2), false, 0)
	q, _ := a.Put(2, lits(-1, 3), false, 0)
	x.Assign(1, trail.None)
	w, _ := New(a, x)
	if got := fmt.Sprintln(w.Count(), propagating(w), x.Lits()); got != fmt.Sprintln(0, "0 false", lits(1)) {
		t.Error(got)
	}
	if got := attaching(w, r); got != "2 0" {
		t.Error(got)
	}
	x.Assign(2, int(r))
	if got := fmt.Sprintln(w.Count(), propagating(w), x.Lits(), attaching(w, q)); got != fmt.Sprintln(1, "0 false", lits(1, 2), "3 0") {
		t.Error(got)
	}
}

// P11.1: trails and arenas that were not made by New, and of the greatest number of variables.
func TestNewEdges(t *testing.T) {
	w, e := New(&arena.Arena{}, &trail.Trail{})
	if got := fmt.Sprintln(int(e), attaching(w, 0), propagating(w), w.Count(), w.Ticks(), int(w.Moved(nil))); got != fmt.Sprintln(0, "0 91", "0 false", 0, 0, 0) {
		t.Error(got)
	}
	p := newPair(t, api.MaxVar)
	p.like("ends", attaching(p.w, p.lay(-1, api.MaxVar)), "0 0")
	p.like("past", attaching(p.w, p.lay(1, api.MaxVar+1)), "0 4")
	p.decide(1)
	p.like("Propagate", fmt.Sprintln(propagating(p.w), p.x.Lits()), fmt.Sprintln("0 false", lits(1, api.MaxVar)))
}

// P11.1: of a nil watcher, and of one that was not made, calls with an error answer ErrNil, all else nothing.
func TestNil(t *testing.T) {
	for _, w := range []*Watch{nil, {}} {
		for _, r := range []arena.Ref{math.MinInt, -1, 0, 1, math.MaxInt} {
			if got := attaching(w, r); got != "0 1" {
				t.Error(got)
			}
		}
		for _, l := range [][]arena.Move{nil, {}, {{From: 0, To: 0}}, {{From: -1, To: math.MaxInt}, {From: 3, To: 4}}} {
			if e := w.Moved(l); e != api.ErrNil {
				t.Error(e)
			}
		}
		if got := fmt.Sprint(propagating(w), w.Ticks(), w.Count(), propagating(w)); got != "0 false0 00 false" {
			t.Error(got)
		}
	}
}

// P11.2: places where no clause begins, and dead clauses.
func TestAttachNoClause(t *testing.T) {
	p := newPair(t, 4)
	r := p.lay(1, 2, 3)
	q := p.lay(-1, -2)
	for _, at := range []arena.Ref{math.MinInt, -7, -1, 1, 2, 3, 4, 6, 8, 9, 13, 14, 1 << 32, math.MaxInt} {
		p.like(fmt.Sprint("Attach ", at), attaching(p.w, at), "0 91")
	}
	p.kill(r)
	p.like("dead", attaching(p.w, r), "0 91")
	p.like("live", attaching(p.w, q), "0 0")
	p.attached[q] = struct{}{}
	p.kill(q)
	p.like("attached, and dead", attaching(p.w, q), "0 91")
	p.agree()
}

// P11.2: a clause that is attached already, whatever came between, is so till it is dead.
func TestAttachTwice(t *testing.T) {
	p := newPair(t, 4, lits(1, 2), lits(3, -2, 4))
	for range 2 {
		p.like("free", attaching(p.w, 0), "0 6")
		p.like("free", attaching(p.w, 6), "0 6")
	}
	p.decide(-1)
	p.like("unit", attaching(p.w, 0), "0 6")
	p.propagate()
	p.like("true", attaching(p.w, 0), "0 6")
	p.back(0)
	p.decide(-1)
	p.decide(-2)
	p.like("false", attaching(p.w, 0), "0 6")
	p.propagate()
	p.like("found false", attaching(p.w, 0), "0 6")
	p.agree()
}

// P11.2: how many literals a clause needs, and of different variables.
func TestAttachLiterals(t *testing.T) {
	p := newPair(t, 4)
	for _, y := range []struct {
		c    api.Clause
		want string
	}{
		{nil, "0 2"}, {lits(1), "0 2"}, {lits(-4), "0 2"}, {lits(2, 2), "0 2"}, {lits(-2, -2), "0 2"}, {lits(2, -2), "0 2"}, {lits(-3, 3), "0 2"},
		{lits(1, 2, 1), "0 2"}, {lits(1, 2, -1), "0 2"}, {lits(3, 1, 2, -3), "0 2"}, {lits(4, 1, -2, -2), "0 2"},
		{lits(5, 5), "0 2"}, {lits(5, -5), "0 2"}, {lits(5), "0 2"}, {lits(1, 1, 9), "0 2"}, {lits(leastLit), "0 2"}, {lits(leastLit, leastLit), "0 2"}, {lits(greatestLit, -greatestLit), "0 2"},
		{lits(1, 5), "0 4"}, {lits(5, 1), "0 4"}, {lits(-5, 2, 3), "0 4"}, {lits(1, 2, 3, 4, -5), "0 4"}, {lits(leastLit, 1), "0 4"}, {lits(1, greatestLit), "0 4"}, {lits(leastLit, greatestLit), "0 4"},
		{lits(1, 2), "0 0"}, {lits(-4, 3), "0 0"}, {lits(4, -3, 2, -1), "0 0"}, {lits(1, 2), "0 0"},
	} {
		r := p.lay(y.c...)
		p.like(fmt.Sprint("Attach of ", y.c), attaching(p.w, r), y.want)
		if y.want == "0 0" {
			p.attached[r] = struct{}{}
		}
		p.agree()
	}
	q := newPair(t, 0)
	p.like("no variables", fmt.Sprintln(attaching(q.w, q.lay(1, 2)), attaching(q.w, q.lay())), fmt.Sprintln("0 4", "0 2"))
}

// P11.2: of the errors that apply the first one named is told.
func TestAttachOrder(t *testing.T) {
	p := newPair(t, 4)
	r := p.add(-1, -2)
	p.decide(1)
	p.propagate()
	p.decide(3)
	p.decide(4)
	for _, y := range []struct {
		what string
		r    arena.Ref
		want string
	}{
		{"ErrTwice ahead of ErrState", r, "0 6"},
		{"ErrArg ahead of ErrLit", p.lay(9, 9, 1), "0 2"},
		{"ErrArg ahead of ErrLit", p.lay(-9), "0 2"},
		{"ErrArg ahead of ErrState", p.lay(-1, -1), "0 2"},
		{"ErrArg ahead of ErrState", p.lay(-1), "0 2"},
		{"ErrLit ahead of ErrState", p.lay(-1, -3, 9), "0 4"},
		{"ErrLit ahead of ErrState", p.lay(-9, -1), "0 4"},
		{"ErrState", p.lay(-1, -3, -4), "0 7"},
	} {
		p.like(y.what, attaching(p.w, y.r), y.want)
		p.agree()
	}
	dead := p.lay(9, 9)
	p.kill(dead)
	p.like("ErrRef ahead of ErrArg", attaching(p.w, dead), "0 91")
	p.kill(r)
	p.like("ErrRef ahead of ErrTwice", attaching(p.w, r), "0 91")
}

// P11.2: the states, one by one: 1 is true at level 0, 2 at 1, 3 at 2, -4 at 2, 5 at 3; 6 and 7 have no value.
func TestAttachStates(t *testing.T) {
	for _, y := range []struct {
		c    api.Clause
		want string
	}{
		{lits(6, 7), "0 0"}, {lits(-1, 6, 7), "0 0"}, {lits(1, 6), "0 0"}, {lits(5, 1), "0 0"}, {lits(5, 3), "0 0"}, {lits(-1, -2, -3, 5, 6), "0 0"}, {lits(-1, 2, 3), "0 0"},
		{lits(6, -5), "6 0"}, {lits(-5, 6), "6 0"}, {lits(-1, 4, -5, -7), "-7 0"}, {lits(-2, -7, -3, -5), "-7 0"},
		{lits(6, -3), "0 7"}, {lits(-1, 6), "0 7"}, {lits(-1, -2, -3, 4, 6), "0 7"},
		{lits(1, -2), "0 0"}, {lits(-2, 1), "0 0"}, {lits(-2, 1, -5), "0 0"}, {lits(2, -1, -3), "0 0"}, {lits(3, 4), "0 0"}, {lits(4, 3), "0 0"}, {lits(5, -6, 4), "0 0"},
		{lits(2, -1), "0 7"}, {lits(-1, 2), "0 7"}, {lits(5, 4, -3), "0 7"}, {lits(-1, -2, -3, 4, 5), "0 7"}, {lits(-4, -2), "0 7"},
		{lits(-1, -2), "0 7"}, {lits(-3, 4), "0 7"}, {lits(-1, -2, -3, 4, -5), "0 7"}, {lits(-5, -1), "0 7"},
	} {
		p := newPair(t, 7)
		p.assign(1, trail.None)
		p.decide(2)
		p.decide(3)
		p.assign(-4, trail.None)
		p.decide(5)
		r := p.lay(y.c...)
		l, e := p.attach(r)
		p.like(fmt.Sprint("Attach of ", y.c), fmt.Sprint(int(l), int(e)), y.want)
		p.agree()
	}
}

// stateOf is one of the values that a variable may have: none, or true or false at one of the levels.
type stateOf struct{ value, level int }

func states(levels int) []stateOf {
	l := []stateOf{{0, 0}}
	for level := range levels + 1 {
		l = append(l, stateOf{1, level}, stateOf{-1, level})
	}
	return l
}

// given is a trail on which the variables 1, 2, .. have these states, and behind them as many others as there are levels were decided.
func given(t *testing.T, of []stateOf, levels int) *pair {
	t.Helper()
	p := newPair(t, len(of)+levels)
	for level := range levels + 1 {
		if level > 0 {
			p.decide(api.Lit(len(of) + level))
		}
		for i, s := range of {
			if s.value != 0 && s.level == level {
				p.assign(api.Lit((i+1)*s.value), trail.None)
			}
		}
	}
	return p
}

// P11.2, P11.6: clauses of two to four literals, of which each has any value at any of up to three levels: what Attach answers; and if it is attached, what Propagate finds then, and behind going back to each level, and on again.
func TestAttachAllStates(t *testing.T) {
	answers := map[string]int{}
	for levels := range 3 {
		for n := 2; n <= 4-levels/2; n++ {
			all := states(levels)
			of := make([]stateOf, n)
			var each func(i int)
			each = func(i int) {
				if i < n {
					for _, s := range all {
						of[i] = s
						each(i + 1)
					}
					return
				}
				for back := 0; back <= levels; back++ {
					answers[attachedIn(t, of, levels, back)]++
				}
			}
			each(0)
		}
	}
	if answers["free 0"] < 1000 || answers["unit 0"] < 50 || answers["free 7"] < 100 || len(answers) != 3 {
		t.Error(answers)
	}
}

// attachedIn attaches the clause of the first variables in these states, and goes on from there.
func attachedIn(t *testing.T, of []stateOf, levels, back int) string {
	t.Helper()
	p := given(t, of, levels)
	c := api.Clause{}
	for i := range of {
		c = append(c, api.Lit(i+1))
	}
	r := p.lay(c...)
	l, e := p.attach(r)
	p.agree()
	if l != 0 {
		p.assign(l, int(r))
	}
	p.propagate()
	p.back(back)
	p.propagate()
	for _, l := range c {
		p.decide(-l)
		p.propagate()
	}
	return fmt.Sprint(map[bool]string{true: "free ", false: "unit "}[l == 0], int(e))
}

// P11.2: what is unit is answered, and not put on the trail.
func TestAttachUnit(t *testing.T) {
	p := newPair(t, 5)
	p.assign(-1, trail.None)
	r := p.lay(1, 2)
	p.like("at level 0", attaching(p.w, r), "2 0")
	p.like("the trail", p.x.Lits(), lits(-1))
	p.assign(2, int(r))
	p.attached[r] = struct{}{}
	p.propagate()
	p.decide(3)
	p.propagate()
	q := p.lay(-3, -4, 1)
	p.like("at level 1", attaching(p.w, q), "-4 0")
	p.like("the trail", p.x.Lits(), lits(-1, 2, 3))
	p.attached[q] = struct{}{}
	p.assign(-4, int(q))
	p.propagate()
	p.back(0)
	p.propagate()
	p.decide(4)
	p.propagate()
	p.like("behind Back and on again", p.x.Lits(), lits(-1, 2, 4, -3))
}

// P11.3: nothing to do: without clauses, without literals, and a second time.
func TestPropagateNothing(t *testing.T) {
	for range 3 {
		p := newPair(t, 3)
		p.propagate()
		p.decide(1)
		p.propagate()
		p.propagate()
		p.like("without clauses", p.x.Lits(), lits(1))
		q := newPair(t, 3, lits(1, 2), lits(-1, 3))
		q.propagate()
		q.propagate()
		q.like("without literals", fmt.Sprint(q.x.Lits(), q.w.Ticks()), "[] 0")
		q.decide(1)
		q.propagate()
		n := q.w.Ticks()
		q.propagate()
		q.like("a second time", fmt.Sprintln(q.x.Lits(), q.w.Ticks()), fmt.Sprintln(lits(1, 3), n))
	}
}

// P11.3: a chain of clauses that follow each other, in whichever order they were attached, and as long as a trail can be.
func TestPropagateChain(t *testing.T) {
	for _, order := range [][]api.Lit{{1, 2, 3, 4}, {4, 3, 2, 1}, {2, 4, 1, 3}} {
		p := newPair(t, 5)
		for _, v := range order {
			p.add(-v, v+1)
		}
		p.decide(1)
		p.propagate()
		p.like("from its beginning", p.x.Lits(), lits(1, 2, 3, 4, 5))
		p.back(0)
		p.decide(-5)
		p.propagate()
		p.like("from its end", p.x.Lits(), lits(-5, -4, -3, -2, -1))
		p.back(0)
		p.decide(3)
		p.propagate()
		p.decide(-2)
		p.propagate()
		p.like("from its midst", p.x.Lits(), lits(3, 4, 5, -2, -1))
	}
	const vars = 100000
	a := arena.New(api.MaxArena)
	x, _ := trail.New(vars)
	w, _ := New(a, x)
	for v := api.Lit(1); v < vars; v++ {
		r, _ := a.Put(int64(v), lits(-v, v+1), false, 0)
		if l, e := w.Attach(r); l != 0 || e != api.OK {
			t.Fatal(l, e)
		}
	}
	x.Decide(1)
	if got := propagating(w); got != "0 false" || x.Len() != vars || x.Level(vars) != 1 || w.Count() != vars-1 {
		t.Fatal(got, x.Len(), w.Count())
	}
	x.Back(0)
	x.Decide(-vars)
	if got := propagating(w); got != "0 false" || x.Len() != vars || x.Value(-1) != 1 {
		t.Fatal(got, x.Len())
	}
	if n := w.Ticks(); n < 2*vars || n > 4*vars {
		t.Error(n)
	}
}

// P11.3: a clause that has many literals, of which all but one turn false one by one.
func TestPropagateLong(t *testing.T) {
	const vars = 300
	c := api.Clause{}
	for v := api.Lit(1); v <= vars; v++ {
		c = append(c, v)
	}
	for _, last := range []int{0, 1, 2, 150, vars - 2, vars - 1} {
		p := newPair(t, vars, c)
		for i, l := range c {
			if i == last {
				continue
			}
			if bad := p.decide(-l); bad != api.OK {
				t.Fatal(bad)
			}
			if p.x.Levels() < vars-1 {
				p.propagate()
				p.like("too early", p.x.Len(), p.x.Levels())
			}
		}
		p.propagate()
		p.like("the last one", fmt.Sprint(p.x.Len(), p.x.Value(c[last]), p.x.Reason(last+1)), fmt.Sprint(vars, 1, 0))
		p.back(100)
		p.propagate()
		p.like("back", p.x.Len(), 100)
	}
}

// P11.3: a clause that is false at once, with both its literals decided; and one that turns false late.
func TestPropagateFalse(t *testing.T) {
	p := newPair(t, 6, lits(-1, -2), lits(3, 4))
	p.decide(1)
	p.decide(2)
	r, bad := p.propagate()
	p.like("at once", fmt.Sprint(r, bad), "0 true")
	q := newPair(t, 6, lits(-1, 2), lits(-2, 3), lits(-3, 4), lits(-1, -4, 5), lits(-5, -3))
	q.decide(6)
	q.propagate()
	q.decide(1)
	r, bad = q.propagate()
	q.like("late", bad, true)
	if q.x.Len() < 5 {
		t.Error(q.x.Lits(), r)
	}
	q.back(1)
	q.propagate()
	q.like("back", q.x.Lits(), lits(6))
	q.decide(-1)
	q.propagate()
	q.like("on again", q.x.Lits(), lits(6, -1))
	// At level 0, from which nothing goes back.
	z := newPair(t, 3, lits(-1, 2), lits(-1, -2), lits(3, -1))
	z.assign(1, trail.None)
	for range 3 {
		_, bad = z.propagate()
		z.like("at level 0", bad, true)
	}
}

// P11.3, P11.6: what is false stays so, and is found again, till it is taken back, or dead.
func TestPropagateFalseAgain(t *testing.T) {
	p := newPair(t, 6, lits(-1, 2), lits(-1, 3), lits(-2, -3), lits(-1, 4), lits(-4, 5), lits(5, 6))
	p.decide(1)
	for range 3 {
		r, bad := p.propagate()
		p.like("found", bad, true)
		if p.a.Len(r) != 2 {
			t.Fatal(p.a.Lits(r))
		}
	}
	p.decide(-6)
	_, bad := p.propagate()
	p.like("a level further on", bad, true)
	p.back(1)
	r, bad := p.propagate()
	p.like("back there", bad, true)
	// Only the false clause goes: all that was not gone through yet is to follow.
	p.kill(r)
	_, bad = p.propagate()
	p.like("without it", fmt.Sprint(bad, p.x.Value(5)), "false 1")
}

// P11.6: literals that were decided one behind the other, and propagated at once, follow at their own levels when the last ones go back.
func TestBackBetweenDecided(t *testing.T) {
	for back := range 4 {
		p := newPair(t, 8, lits(-1, 4), lits(-2, 5), lits(-3, 6), lits(-4, -5, 7), lits(-1, 2), lits(-7, 8, 3))
		p.decide(1)
		p.decide(2)
		p.decide(-3)
		_, bad := p.propagate()
		p.like("all", bad, false)
		p.back(back)
		_, bad = p.propagate()
		p.like("back", fmt.Sprint(bad, p.x.Len()), fmt.Sprint(false, []int{0, 5, 5, 7}[back]))
		p.decide(-8)
		p.propagate()
	}
}

// P11.6: a clause that is found false while literals of several levels wait: what else their clauses say is not lost.
func TestFalseBetweenDecided(t *testing.T) {
	for n := range 5 {
		for back := range 3 {
			clauses := []api.Clause{lits(-1, 3), lits(-1, 4), lits(-1, 5), lits(-1, 6)}
			clauses = slices.Insert(clauses, n, lits(-1, -2))
			p := newPair(t, 6, clauses...)
			p.decide(1)
			p.decide(2)
			_, bad := p.propagate()
			p.like("both", bad, true)
			p.back(back)
			_, bad = p.propagate()
			p.like("back", fmt.Sprint(bad, back < 2 && p.x.Len() != []int{0, 6}[back]), fmt.Sprint(back == 2, false))
			p.back(0)
			p.decide(2)
			p.propagate()
			p.like("on again", p.x.Lits(), lits(2, -1))
		}
	}
}

// P11.3, P11.6: what a clause that was unit when it was attached is worth, if its literal comes onto the trail only behind further ones.
func TestUnitPutLate(t *testing.T) {
	puts := []func(p *pair, l api.Lit, r arena.Ref){
		func(p *pair, l api.Lit, r arena.Ref) { p.assign(l, int(r)) },
		func(p *pair, l api.Lit, r arena.Ref) { p.assign(l, trail.None) },
		func(p *pair, l api.Lit, r arena.Ref) { p.decide(l) },
	}
	for _, put := range puts {
		for decided := range 3 {
			for back := range 4 {
				p := newPair(t, 6, lits(-3, 6))
				p.decide(1)
				r := p.lay(-1, 3)
				l, _ := p.attach(r)
				for i := range decided {
					p.decide(api.Lit(4 + i))
				}
				put(p, l, r)
				p.propagate()
				p.back(min(back, p.x.Levels()))
				p.propagate()
				p.like("3 and 6", fmt.Sprint(p.x.Value(3), p.x.Value(6)), map[bool]string{true: "0 0", false: "1 1"}[back == 0])
			}
		}
	}
}

// P11.3: nothing is promised if a clause's literal, which Attach answered, is not put on the trail; but the call ends, and what it puts follows.
func TestUnitNotPut(t *testing.T) {
	for _, l := range []api.Lit{0, 5, -5} {
		p := newPair(t, 6, lits(-3, 6))
		p.decide(1)
		r := p.lay(-1, 5, -6)
		p.assign(6, trail.None)
		p.attach(r)
		if l != 0 {
			p.decide(l)
		}
		p.w.Propagate()
		p.reasons()
		p.agree()
	}
}

// P11.3: a literal that an earlier clause made true, met again, keeps its reason; its negation makes a clause false.
func TestPropagateMetAgain(t *testing.T) {
	p := newPair(t, 5, lits(-1, 2), lits(-1, 2, 3), lits(-1, 3, 2), lits(-4, 2), lits(2, -5))
	p.decide(1)
	p.propagate()
	p.like("once", p.x.Lits(), lits(1, 2))
	first := p.x.Reason(2)
	p.decide(4)
	p.propagate()
	p.decide(5)
	p.propagate()
	p.decide(-3)
	p.propagate()
	p.like("and no more", fmt.Sprintln(p.x.Lits(), p.x.Reason(2), p.x.Level(2)), fmt.Sprintln(lits(1, 2, 4, 5, -3), first, 1))
	q := newPair(t, 5, lits(-1, 2), lits(-1, -2))
	q.decide(1)
	_, bad := q.propagate()
	q.like("its negation", fmt.Sprint(bad, q.x.Len()), "true 2")
}

// P11.3: a clause that is killed says nothing any more, whether it was come across or not; one beside it does.
func TestPropagateKilled(t *testing.T) {
	p := newPair(t, 5)
	r := p.add(-1, 2)
	q := p.add(-1, -2, 3)
	p.decide(1)
	p.propagate()
	p.like("both", p.x.Lits(), lits(1, 2, 3))
	p.back(0)
	p.kill(r)
	p.decide(1)
	p.propagate()
	p.like("without the first", p.x.Lits(), lits(1))
	p.like("come across", p.w.Count(), 1)
	p.decide(2)
	p.propagate()
	p.like("the second", p.x.Lits(), lits(1, 2, 3))
	// The reason of what is on the trail goes: that stays as it is.
	p.kill(q)
	p.propagate()
	p.decide(-4)
	p.propagate()
	p.like("its reason is dead", p.x.Lits(), lits(1, 2, 3, -4))
	p.back(0)
	p.decide(1)
	p.decide(2)
	p.propagate()
	p.like("nothing", fmt.Sprintln(p.x.Lits(), p.w.Count()), fmt.Sprintln(lits(1, 2), 0))
}

// sweep collects the arena and tells the watcher.
func (p *pair) sweep() api.Errno {
	p.t.Helper()
	l := p.collect()
	e := p.moved(l)
	if e == api.OK {
		p.rename(l)
		p.agree()
	}
	return e
}

// P11.4: behind Collect and Moved all goes on: reasons, clauses, those of which nothing was killed, and with nothing killed at all.
func TestMoved(t *testing.T) {
	p := newPair(t, 6)
	r := p.add(5, 6)
	p.add(-1, 2)
	q := p.add(4, -6, 3)
	p.add(-2, -3, 4)
	p.propagate()
	p.like("nothing killed", int(p.sweep()), 0)
	p.decide(1)
	p.propagate()
	p.kill(r)
	p.like("one killed", fmt.Sprint(int(p.sweep()), p.w.Count(), p.x.Reason(2)), "0 3 0")
	p.decide(3)
	p.propagate()
	p.like("on", fmt.Sprintln(p.x.Lits(), p.x.Reason(4)), fmt.Sprintln(lits(1, 2, 3, 4), 13))
	p.kill(q - 6)
	p.like("another one", fmt.Sprint(int(p.sweep()), p.w.Count(), p.x.Reason(2), p.x.Reason(4)), "0 2 0 6")
	p.back(0)
	p.decide(-4)
	p.propagate()
	p.decide(3)
	p.propagate()
	p.like("back, and on", p.x.Lits(), lits(-4, 3, -2, -1))
	// Where a clause was is free for another one.
	z := p.lay(5, 6)
	p.like("a new one", attaching(p.w, z), "0 0")
	p.attached[z] = struct{}{}
	p.decide(-6)
	p.propagate()
	p.like("it too", p.x.Lits(), lits(-4, 3, -2, -1, -6, 5))
	p.like("twice", attaching(p.w, 0), "0 6")
}

// P11.4: a clause that waits to be looked at has its new place too.
func TestMovedWaiting(t *testing.T) {
	p := newPair(t, 6)
	r := p.add(5, 6)
	p.add(-1, 3)
	p.add(-1, -2)
	p.add(-1, 4)
	p.decide(1)
	p.decide(2)
	_, bad := p.propagate()
	p.like("false", bad, true)
	p.kill(r)
	p.like("Moved", int(p.sweep()), 0)
	f, bad := p.propagate()
	p.like("false as ever", fmt.Sprint(f, bad), "6 true")
	p.back(1)
	p.kill(6)
	p.like("Moved", int(p.sweep()), 0)
	p.propagate()
	p.like("its own level", fmt.Sprint(p.x.Value(3), p.x.Value(4), p.x.Value(2), p.w.Count()), "1 1 0 2")
}

// P11.4: a reason that is no From: nothing changes; and when it has gone back, it can be told again.
func TestMovedReason(t *testing.T) {
	p := newPair(t, 6)
	r := p.add(-1, 2)
	p.add(-2, 3)
	p.add(-4, 5)
	p.decide(4)
	p.propagate()
	p.decide(1)
	p.propagate()
	p.kill(r)
	l := p.collect()
	for _, m := range [][]arena.Move{l, nil, {}, l[:1], l[1:], {{From: 1, To: 0}}, {{From: -1, To: -1}}} {
		p.like(fmt.Sprint("Moved ", m), int(p.moved(m)), 2)
	}
	p.back(1)
	p.like("a reason is wanting", int(p.moved(l[:1])), 2)
	p.like("behind Back", int(p.moved(l)), 0)
	p.rename(l)
	p.agree()
	p.like("where it is", p.x.Reason(5), 6)
	p.decide(2)
	p.propagate()
	p.like("on", p.x.Lits(), lits(4, 5, 2, 3))
}

// P11.4: attached clauses that are no From are attached no longer, and may be attached again; with an empty row none is.
func TestMovedPart(t *testing.T) {
	for part := range 8 {
		p := newPair(t, 6, lits(-1, 2), lits(-1, 3), lits(-1, 4))
		p.decide(5)
		p.propagate()
		l := p.collect()
		var some []arena.Move
		want := lits(5, 1)
		for i, m := range l {
			if part>>i&1 == 1 {
				some = append(some, m)
				want = append(want, api.Lit(i+2))
			}
		}
		p.like("Moved", int(p.moved(some)), 0)
		p.rename(l)
		p.agree()
		p.decide(1)
		p.propagate()
		p.like(fmt.Sprint("part ", part), fmt.Sprintln(p.x.Lits(), p.w.Count()), fmt.Sprintln(want, len(some)))
		p.back(1)
		for i := range 3 {
			p.like("Attach again", attaching(p.w, l[i].To), fmt.Sprint(0, (part>>i&1)*6))
			p.attached[l[i].To] = struct{}{}
		}
		p.agree()
		p.decide(1)
		p.propagate()
		p.like("all", p.x.Len(), 5)
	}
}

// P11.4: clauses of the arena that are not attached stay so, and None is no reason.
func TestMovedOthers(t *testing.T) {
	p := newPair(t, 6)
	dead := p.lay(1, 2)
	p.add(-1, 2)
	free := p.lay(-1, 3)
	p.assign(4, trail.None)
	p.decide(1)
	p.propagate()
	p.kill(dead)
	p.like("Moved", int(p.sweep()), 0)
	p.like("what is attached", fmt.Sprintln(p.w.Count(), p.x.Lits(), p.x.Reason(2), p.x.Reason(4)), fmt.Sprintln(1, lits(4, 1, 2), 0, -1))
	p.back(0)
	p.like("the other one", attaching(p.w, free-6), "0 0")
	q := newPair(t, 3)
	q.assign(1, trail.None)
	q.decide(2)
	q.like("nothing but None", fmt.Sprint(int(q.moved(nil)), int(q.moved([]arena.Move{{From: 5, To: 6}}))), "0 0")
}

// P11.5: Ticks never falls, begins at 0, and grows with what is looked at: not with Attach, Moved, or a Propagate that has nothing to look at.
func TestTicks(t *testing.T) {
	p := newPair(t, 5, lits(-1, 2), lits(-2, 3), lits(4, 5))
	p.like("at first", p.w.Ticks(), 0)
	p.decide(1)
	p.propagate()
	n := p.w.Ticks()
	if n < 3 || n > 5 {
		t.Errorf("three literals and two clauses: %d", n)
	}
	p.like("Moved", int(p.sweep()), 0)
	p.add(4, -5)
	p.back(0)
	p.propagate()
	p.like("nothing to look at", p.w.Ticks(), n)
	p.decide(4)
	p.propagate()
	p.like("one literal, no clause", p.w.Ticks(), n+1)
	// Dead clauses are not attached.
	for r := range p.attached {
		p.kill(r)
	}
	n = p.w.Ticks()
	p.back(0)
	for _, l := range lits(1, -2, 3, -4, 5) {
		p.decide(l)
	}
	p.propagate()
	if m := p.w.Ticks(); m < n || m > n+5 {
		t.Errorf("five literals: %d, then %d", n, m)
	}
}

// A clause that Propagate looks at ahead of the trail's literals: if it is dead, it is come across there, too; if it stays so over many rounds, it is still noted but once.
func TestLookedAtFirst(t *testing.T) {
	p := newPair(t, 4)
	p.decide(1)
	p.propagate()
	r := p.lay(-1, 2)
	p.attach(r)
	p.kill(r)
	p.propagate()
	p.like("dead", fmt.Sprintln(p.w.Count(), p.x.Lits()), fmt.Sprintln(0, lits(1)))
	p.back(0)
	p.add(-1, 2)
	for range 50 {
		p.decide(1)
		p.decide(2)
		p.propagate()
		if n := len(p.w.again); n > 2 {
			t.Fatal(n)
		}
		p.back(0)
	}
	p.decide(1)
	p.decide(2)
	p.propagate()
	p.back(1)
	p.propagate()
	p.like("at its level", p.x.Lits(), lits(1, 2))
}

// P11.5: Count behind Attach, Kill and Moved.
func TestCount(t *testing.T) {
	p := newPair(t, 6)
	p.like("none", p.w.Count(), 0)
	var refs []arena.Ref
	for v := api.Lit(1); v <= 5; v++ {
		r := p.lay(-v, v+1)
		p.like("put", p.w.Count(), int(v)-1)
		p.attach(r)
		p.like("attached", p.w.Count(), int(v))
		p.attach(r)
		p.like("twice", p.w.Count(), int(v))
		refs = append(refs, r)
	}
	p.attach(p.lay(1))
	p.attach(p.lay(1, 1))
	p.attach(p.lay(1, 9))
	p.like("wrong ones", p.w.Count(), 5)
	p.kill(refs[1])
	p.kill(refs[3])
	if n := p.w.Count(); n < 3 || n > 5 {
		t.Error(n)
	}
	p.like("Moved", int(p.sweep()), 0)
	p.like("Count", p.w.Count(), 3)
	p.like("Moved of nothing", int(p.moved(nil)), 0)
	p.like("Count", p.w.Count(), 0)
}
