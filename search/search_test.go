package search

import (
	"fmt"
	"math"
	"slices"
	"testing"

	"threshing/api"
	"threshing/base"
	"threshing/cnf"
)

// P19.1: the defaults, each as the chapter has it.
func TestDefault(t *testing.T) {
	want := Options{1, true, 2, 64, 110, 5, 14, 300, 2, 50, 1000, 0, 0, true, true}
	for range 2 {
		if got := Default(); got != want {
			t.Errorf("%+v", got)
		}
	}
	if e := Right(Default()); e != api.OK {
		t.Error(e)
	}
}

// option is one that has bounds.
type option struct {
	name            string
	least, greatest int64
	set             func(o *Options, n int64)
}

func options() []option {
	return []option{
		{"Mode", 0, 2, func(o *Options, n int64) { o.Mode = int(n) }},
		{"Restart", 1, 1000000, func(o *Options, n int64) { o.Restart = n }},
		{"Margin", 100, 10000, func(o *Options, n int64) { o.Margin = int(n) }},
		{"Fast", 0, 30, func(o *Options, n int64) { o.Fast = int(n) }},
		{"Slow", 0, 30, func(o *Options, n int64) { o.Slow = int(n) }},
		{"Reduce", 1, 1000000, func(o *Options, n int64) { o.Reduce = n }},
		{"Glue", 0, 100, func(o *Options, n int64) { o.Glue = int(n) }},
		{"Part", 0, 100, func(o *Options, n int64) { o.Part = int(n) }},
		{"Rephase", 1, 1000000, func(o *Options, n int64) { o.Rephase = n }},
		{"Conflicts", 0, 1 << 40, func(o *Options, n int64) { o.Conflicts = n }},
		{"Ticks", 0, 1 << 40, func(o *Options, n int64) { o.Ticks = n }},
	}
}

// P19.1, P19.2: each option at its least and its greatest value, and one beyond each, and far beyond; and Run with each of them.
func TestBounds(t *testing.T) {
	for _, x := range options() {
		for _, n := range []int64{x.least, x.least + 1, x.greatest - 1, x.greatest} {
			o := Default()
			x.set(&o, n)
			if e := Right(o); e != api.OK {
				t.Errorf("%s %d: %d", x.name, n, e)
			}
			for _, f := range []api.Formula{square(), of(3, lits(1, 2, 3), lits(-1, -2), lits(-3)), holes(4)} {
				r := proved(t, f, o)
				if len(f.Clauses) == 3 && r.Verdict == api.Unsat || len(f.Clauses) > 3 && r.Verdict == api.Sat {
					t.Errorf("%s %d: %v: %d", x.name, n, f, r.Verdict)
				}
			}
		}
		for _, n := range []int64{x.least - 1, x.greatest + 1, math.MinInt64, math.MaxInt64, -x.greatest} {
			if n >= x.least && n <= x.greatest {
				continue
			}
			o := Default()
			x.set(&o, n)
			b := made(t, square())
			was := told(b)
			r, run := Run(b, o)
			if e := Right(o); e != api.ErrArg || run != api.ErrArg {
				t.Errorf("%s %d: %d, %d", x.name, n, e, run)
			}
			if fmt.Sprint(r) != fmt.Sprint(Result{}) || told(b) != was {
				t.Errorf("%s %d: a result beside the error: %v, or another base", x.name, n, r)
			}
		}
	}
}

// P19.1: options without bounds, and all that have some at once.
func TestRightAll(t *testing.T) {
	for _, end := range []func(option) int64{func(x option) int64 { return x.least }, func(x option) int64 { return x.greatest }} {
		var o Options
		for _, x := range options() {
			x.set(&o, end(x))
		}
		for _, seed := range []uint64{0, 1, 2, math.MaxUint64} {
			o.Seed = seed
			for n := range 8 {
				o.Phase, o.Minimise, o.Shrink = n&1 == 0, n&2 == 0, n&4 == 0
				if e := Right(o); e != api.OK {
					t.Errorf("%+v: %d", o, e)
				}
			}
		}
	}
	if e := Right(Options{}); e != api.ErrArg {
		t.Errorf("all zero: %d", e)
	}
}

// P19.2: which error comes first.
func TestRunErrors(t *testing.T) {
	for _, o := range []Options{Default(), {}} {
		if r, e := Run(nil, o); e != api.ErrNil || fmt.Sprint(r) != fmt.Sprint(Result{}) {
			t.Errorf("no base: %v, %d", r, e)
		}
	}
	// A base that was not made is one of no variables.
	if r, e := Run(new(base.Base), Default()); e != api.OK || r.Verdict != api.Sat || len(r.Model) != 0 {
		t.Errorf("a base that was not made: %v, %d", r, e)
	}
	if _, e := Run(new(base.Base), Options{}); e != api.ErrArg {
		t.Errorf("wrong options: %d", e)
	}
}

// The chapter's examples.
func TestExamples(t *testing.T) {
	b := made(t, of(2))
	if r := searched(t, b, Default()); r.Verdict != api.Sat || len(r.Model) != 2 {
		t.Errorf("no clauses: %v", r)
	}
	b = made(t, square())
	r := searched(t, b, Default())
	if _, empty := b.Empty(); r.Verdict != api.Unsat || !empty {
		t.Errorf("square: %v", r)
	}
	o := Default()
	o.Conflicts = 1
	b = made(t, square())
	r = searched(t, b, o)
	if r.Verdict != api.Unsat && r.Verdict != api.Unknown || r.Conflicts < 1 {
		t.Errorf("square, one conflict: %v", r)
	}
}

// P19.2: bases of all kinds, and what is found.
func TestKinds(t *testing.T) {
	for _, x := range []struct {
		f    api.Formula
		want uint8
	}{
		{api.Formula{}, api.Sat},
		{of(0, nil), api.Unsat},
		{of(0, nil, nil), api.Unsat},
		{of(1), api.Sat},
		{of(1, nil), api.Unsat},
		{of(1, lits(1), nil), api.Unsat},
		{of(1, lits(1)), api.Sat},
		{of(1, lits(-1)), api.Sat},
		{of(1, lits(1), lits(1)), api.Sat},
		{of(1, lits(1), lits(-1)), api.Unsat},
		{of(1, lits(1, -1)), api.Sat},
		{of(1, lits(1, -1), lits(-1)), api.Sat},
		{of(1, lits(1, 1), lits(-1, -1, -1)), api.Unsat},
		{of(1, lits(-1, 1, -1), nil), api.Unsat},
		{of(2, lits(1, 1, 2, 2), lits(-2, -2), lits(1, 2, 1)), api.Sat},
		{of(2, lits(1, 1, 2, 2), lits(-2, -2), lits(-1, 2, -1)), api.Unsat},
		{of(2, lits(1, 2), lits(1, 2), lits(-1, 2), lits(2, -1)), api.Sat},
		{of(3, lits(1), lits(-1, 2), lits(-2, 3)), api.Sat},
		{of(3, lits(-1, 2), lits(-2, 3), lits(-3), lits(1)), api.Unsat},
		{of(3, lits(1, 2, 3), lits(-1), lits(-2), lits(-3)), api.Unsat},
		{of(5, lits(2, -4)), api.Sat},
		{square(), api.Unsat},
		{of(2, square().Clauses[1:]...), api.Sat},
		{holes(2), api.Unsat},
		{holes(3), api.Unsat},
		{holes(4), api.Unsat},
		{holes(5), api.Unsat},
	} {
		for _, o := range variants() {
			if got := decided(t, x.f, o); got != x.want {
				t.Errorf("%v, %+v: %d, want %d", x.f, o, got, x.want)
			}
		}
	}
}

// P19.2: what is not live, as it was deleted or weakened, is not looked at; what came in is.
func TestChangedBases(t *testing.T) {
	for _, o := range variants() {
		b := made(t, square())
		must(t, b.Weaken(4, lits(-1)))
		r := searched(t, b, o)
		if r.Verdict != api.Sat || !slices.Equal(r.Model, api.Model{true, true}) {
			t.Errorf("one was weakened: %v", r)
		}
		b = made(t, of(2, lits(1, -1, 2), lits(1, 2), lits(-1), lits(-1, 2)))
		must(t, b.Drop(1, 0))
		must(t, b.Drop(4, 3))
		id, e := b.Add(lits(2), []int64{3, 2}, true)
		must(t, e)
		must(t, b.Keep(id))
		must(t, b.Drop(2, id))
		if r := searched(t, b, o); r.Verdict != api.Sat || !slices.Equal(r.Model, api.Model{false, true}) {
			t.Errorf("some were dropped: %v", r)
		}
		// The clauses that made 2 come in are gone.
		must(t, b.Weaken(3, lits(-1)))
		must(t, b.Weaken(id, lits(2)))
		if r := searched(t, b, o); r.Verdict != api.Sat {
			t.Errorf("all went: %v", r)
		}
	}
}

// P19.2, P19.3: redundant clauses, also units and empty ones, and tautologies, may be gone behind; while they are there they count.
func TestRedundant(t *testing.T) {
	for _, o := range variants() {
		b := made(t, square())
		for _, x := range []struct {
			c     api.Clause
			hints []int64
		}{{lits(1, 2), []int64{1}}, {lits(2, 2), []int64{1, 2}}, {lits(2), []int64{6}}, {lits(-1, 1), nil}, {lits(-1), []int64{7, 4}}} {
			_, e := b.Add(x.c, x.hints, true)
			must(t, e)
		}
		r := searched(t, b, o)
		if r.Verdict != api.Unsat || r.Decisions != 0 {
			t.Errorf("%+v: %v", o, r)
		}
		b = made(t, of(1, lits(1), lits(-1)))
		_, e := b.Add(nil, []int64{1, 2}, true)
		must(t, e)
		if r := searched(t, b, o); r.Verdict != api.Unsat {
			t.Errorf("%+v: %v", o, r)
		}
		// What is redundant follows from what is not there any more.
		b = made(t, of(3, lits(1, 2), lits(-1, 2), lits(3, -2)))
		for _, hints := range [][]int64{{1, 2}, {4}} {
			_, e := b.Add(lits(2), hints, true)
			must(t, e)
		}
		must(t, b.Delete(4))
		must(t, b.Weaken(1, lits(1)))
		must(t, b.Weaken(2, lits(-1)))
		if r := searched(t, b, o); r.Verdict != api.Sat || !r.Model[1] || !r.Model[2] {
			t.Errorf("%+v: %v", o, r)
		}
	}
}

// The words: each literal of level 0 that has no unit clause gets one, by its reason's other literals' units, then the reason.
func TestUnits(t *testing.T) {
	for _, x := range []struct {
		f    api.Formula
		want []api.Step
	}{
		{of(3, lits(1), lits(-1, 2), lits(3, -2, -1)), []api.Step{
			{Kind: api.SAdd, ID: 4, Lits: lits(2), Hints: []int64{1, 2}},
			{Kind: api.SAdd, ID: 5, Lits: lits(3), Hints: []int64{1, 4, 3}},
		}},
		{of(2, lits(-1, 2), lits(1), lits(2, 2), lits(1)), nil},
		{of(2, lits(2, -1, 2), lits(1, 1)), []api.Step{{Kind: api.SAdd, ID: 3, Lits: lits(2), Hints: []int64{2, 1}}}},
		{of(2, lits(1), lits(-1, 2), lits(-1, -2)), []api.Step{
			{Kind: api.SAdd, ID: 4, Lits: lits(2), Hints: []int64{1, 2}},
			{Kind: api.SAdd, ID: 5, Hints: []int64{1, 4, 3}},
		}},
		{of(1, lits(-1), lits(-1), lits(1), lits(-1)), []api.Step{{Kind: api.SAdd, ID: 5, Hints: []int64{1, 3}}}},
		{of(1, lits(1), nil), []api.Step{{Kind: api.SAdd, ID: 3, Hints: []int64{2}}}},
	} {
		for _, o := range variants() {
			b := made(t, x.f)
			r := searched(t, b, o)
			got := b.Steps()
			// Of two clauses of which each is unit, either may be the reason, or the one that is false.
			if fmt.Sprint(sorted(got)) != fmt.Sprint(sorted(x.want)) {
				t.Errorf("%v: %v, want %v", x.f, got, x.want)
			}
			if r.Decisions != 0 || r.Verdict == api.Unknown {
				t.Errorf("%v: %v", x.f, r)
			}
		}
	}
}

// sorted has the hints but the last one rising: the order in which literals stand in a clause of the arena is the watcher's.
func sorted(l []api.Step) []api.Step {
	for i := range l {
		if n := len(l[i].Hints); n > 1 {
			l[i].Hints = slices.Clone(l[i].Hints)
			slices.Sort(l[i].Hints[:n-1])
		}
	}
	return l
}

// The options Phase: what is decided first is it. (No clause, so that all is decided.)
func TestPhase(t *testing.T) {
	for _, o := range variants() {
		r := searched(t, made(t, of(9)), o)
		if r.Verdict != api.Sat || r.Decisions != 9 || r.Conflicts != 0 || slices.Contains(r.Model, !o.Phase) {
			t.Errorf("%+v: %v", o, r)
		}
	}
}

// P19.2: a budget that is used up, and what Unknown asks of the counts then.
func TestBudgets(t *testing.T) {
	verdicts := map[uint8]int{}
	for _, f := range []api.Formula{holes(5), square(), of(2, lits(1, 2))} {
		for _, o := range variants() {
			free := proved(t, f, o)
			for n := int64(1); n <= free.Conflicts+2; n++ {
				o.Conflicts, o.Ticks = n, 0
				r := proved(t, f, o)
				verdicts[r.Verdict]++
				if n > free.Conflicts && r.Verdict == api.Unknown || r.Verdict != api.Unknown && r.Verdict != free.Verdict {
					t.Errorf("%d of %d conflicts: %v", n, free.Conflicts, r)
				}
			}
			for n := int64(1); n <= free.Ticks+2; n += 1 + n/2 {
				o.Conflicts, o.Ticks = 0, n
				r := proved(t, f, o)
				verdicts[r.Verdict]++
				if n > free.Ticks && r.Verdict == api.Unknown || r.Verdict != api.Unknown && r.Verdict != free.Verdict {
					t.Errorf("%d of %d ticks: %v", n, free.Ticks, r)
				}
			}
		}
	}
	if verdicts[api.Unknown] < 100 || verdicts[api.Unsat] < 100 || verdicts[api.Sat] < 20 {
		t.Error(verdicts)
	}
}

// P19.2: both budgets at once, of which either may be used up; and the greatest ones, which are not.
func TestBothBudgets(t *testing.T) {
	o := Default()
	o.Conflicts, o.Ticks = 3, 1<<40
	if r := proved(t, holes(5), o); r.Verdict != api.Unknown || r.Conflicts < 3 || r.Conflicts > 6 {
		t.Errorf("by conflicts: %v", r)
	}
	o.Conflicts, o.Ticks = 1<<40, 50
	if r := proved(t, holes(5), o); r.Verdict != api.Unknown || r.Ticks < 50 || r.Ticks > 200 {
		t.Errorf("by ticks: %v", r)
	}
	o.Ticks = 1 << 40
	if r := proved(t, holes(5), o); r.Verdict != api.Unsat {
		t.Errorf("by none: %v", r)
	}
	// A budget that is used up by the time at which a model is found leaves the model.
	o.Conflicts, o.Ticks = 0, 1
	if r := proved(t, of(2, lits(1), lits(-1, 2)), o); r.Verdict != api.Sat || r.Ticks < 1 {
		t.Errorf("all have values at once: %v", r)
	}
}

// P19.2: going on over the same base, conflict by conflict, to the end, which is that of a search without budgets.
func TestGoingOn(t *testing.T) {
	for _, o := range variants() {
		for _, f := range []api.Formula{holes(4), square(), of(2, square().Clauses[1:]...), of(12, holes(4).Clauses[1:]...)} {
			o.Conflicts = 1
			b := made(t, f)
			r, rounds := searched(t, b, o), 1
			for ; r.Verdict == api.Unknown && rounds < 1000; rounds++ {
				r = searched(t, b, o)
			}
			o.Conflicts = 0
			if want := decided(t, f, o); r.Verdict != want {
				t.Errorf("%v, %+v: %d in %d rounds, and %d at once", f, o, r.Verdict, rounds, want)
			}
		}
	}
}

// P19.2: behind the end a search finds the same end.
func TestBehindTheEnd(t *testing.T) {
	for _, o := range variants() {
		b := made(t, holes(4))
		for range 3 {
			if r := searched(t, b, o); r.Verdict != api.Unsat {
				t.Errorf("%+v: %v", o, r)
			}
		}
		f := of(3, lits(1, 2, 3), lits(-1, -2), lits(-1, -3), lits(-2, -3))
		b = made(t, f)
		for range 3 {
			if r := searched(t, b, o); r.Verdict != api.Sat || !cnf.Holds(f, r.Model) {
				t.Errorf("%+v: %v", o, r)
			}
		}
	}
}
