package search

import (
	"fmt"
	"maps"
	"math/rand"
	"slices"
	"testing"

	"threshing/analyze"
	"threshing/api"
	"threshing/arena"
	"threshing/base"
	"threshing/cnf"
	"threshing/minimise"
	"threshing/phase"
	"threshing/trail"
)

// plainLimit is at how many conflicts something is done for the n-th time.
func plainLimit(first, n int64) int64 { return first * n * (n + 1) / 2 }

// plainTimes is how often something was to be done by so many conflicts.
func plainTimes(first, conflicts int64) int64 {
	n := int64(0)
	for plainLimit(first, n+1) <= conflicts {
		n++
	}
	return n
}

// plainAverage is an average, as chapter 15 has it.
type plainAverage struct{ shift, value, count int64 }

func (a *plainAverage) add(x int64) {
	a.count++
	s := int64(0)
	for s < a.shift && a.count>>(s+1) > 0 {
		s++
	}
	a.value += (x<<32 - a.value) >> s
}

// walk is a search, step by step, beside what is known of it plainly.
type walk struct {
	t       *testing.T
	s       *search
	o       Options
	phases  *phase.Phases // does what those of the search should
	free    api.Clause    // the trail, as far as it was there when no clause was false last
	stable  bool
	pending bool // the bell rang
	rings   int64
	left    int64 // conflicts till it does
	began   int64
	fast    plainAverage
	slow    plainAverage
	changes int64
	turns   int64
	reduced int64
	seldom  bool // look at all that is there but now and then, and not at what was used
	steps   int
	counts  map[string]int
}

// plainLuby is a number of the row.
func plainLuby(i int64) int64 {
	for k := int64(1); ; k++ {
		switch {
		case i == 1<<k-1:
			return 1 << (k - 1)
		case i < 1<<k-1:
			return plainLuby(i - 1<<(k-1) + 1)
		}
	}
}

func newWalk(t *testing.T, f api.Formula, o Options) *walk {
	t.Helper()
	w := &walk{t: t, s: newSearch(made(t, f), o, api.MaxArena), o: o, stable: o.Mode != 1, counts: map[string]int{}}
	w.phases, _ = phase.New(f.Vars, o.Phase, o.Seed)
	w.fast.shift, w.slow.shift = int64(o.Fast), int64(o.Slow)
	w.ring()
	return w
}

func (w *walk) ring() {
	w.rings++
	w.left = w.o.Restart * plainLuby(w.rings)
}

func (w *walk) wrong(format string, l ...any) {
	w.t.Helper()
	w.t.Fatalf("%+v, %d conflicts: %s", w.o, w.s.result.Conflicts, fmt.Sprintf(format, l...))
}

// state is what is held against what is there behind a step.
type state struct {
	trail    api.Clause
	levels   []int
	result   Result
	last     int64
	scores   []int64
	order    []int
	saved    []bool
	restarts int64
}

func (w *walk) state() state {
	s := w.s
	st := state{trail: s.trail.Lits(), result: s.result, last: s.base.Last(), order: s.line.queue.Order(), saved: s.phases.Saved()}
	for v := 1; v <= s.trail.Vars(); v++ {
		st.levels = append(st.levels, s.trail.Level(v))
		st.scores = append(st.scores, s.scores.heap.Score(v))
	}
	return st
}

// run goes to the end.
func (w *walk) run() {
	w.t.Helper()
	conflict, bad, e := w.s.load()
	if e != api.OK {
		w.wrong("error %d", e)
	}
	w.loaded()
	if !bad {
		conflict, bad = w.s.watch.Propagate()
	}
	for done := false; !done; {
		done = w.step(conflict, bad)
		if w.steps++; !w.seldom || w.steps%100 == 0 {
			w.whole()
		}
		conflict, bad = w.s.watch.Propagate()
	}
	for what, n := range map[string]int64{"learn": w.s.result.Conflicts, "decide": w.s.result.Decisions} {
		if d := n - int64(w.counts[what]); d < 0 || d > 1 {
			w.wrong("%s: %d of %d", what, w.counts[what], n)
		}
	}
}

// loaded asks of the arena that it has the clauses that it should, in order.
func (w *walk) loaded() {
	w.t.Helper()
	refs := w.s.arena.Refs()
	attached := 0
	for _, c := range w.s.base.Entries() {
		lits, both := cnf.Normal(c.Lits)
		if both {
			continue
		}
		if len(refs) == 0 || w.s.arena.ID(refs[0]) != c.ID || w.s.arena.Red(refs[0]) != c.Red || !cnf.Same(w.s.arena.Lits(refs[0]), c.Lits) || w.s.arena.Len(refs[0]) != len(lits) {
			w.wrong("%v is not where it should be", c)
		}
		refs = refs[1:]
		if len(lits) > 1 {
			attached++
		}
	}
	if len(refs) > 0 || w.s.watch.Count() != attached {
		w.wrong("%d clauses more, %d attached, want %d", len(refs), w.s.watch.Count(), attached)
	}
}

// step does one, and asks that it was the right one.
func (w *walk) step(conflict arena.Ref, bad bool) bool {
	w.t.Helper()
	s := w.s
	var c api.Clause
	var what analyze.Learned
	above := bad && s.trail.Levels() > 0
	if above {
		what, _ = analyze.Learn(s.arena, s.trail, conflict)
		c = what.Lits
		if w.o.Minimise {
			c, _ = minimise.Minimise(s.arena, s.trail, c)
		}
		if w.o.Shrink {
			c, _ = minimise.Shrink(s.arena, s.trail, c)
		}
	}
	lbd := analyze.LBD(s.trail, c)
	hints, _ := analyze.Chain(s.arena, s.trail, s.units, c, conflict)
	if !bad {
		w.free = s.trail.Lits()
	}
	was := w.state()
	used := w.uses()
	expected, of := w.expected(bad)
	done, e := s.step(conflict, bad)
	if e != api.OK {
		w.wrong("error %d", e)
	}
	w.counts[expected]++
	is := w.state()
	w.unitsOf(was.trail[:w.zero(was)])
	if s.result.Conflicts != was.result.Conflicts+int64(of) {
		w.wrong("%s: conflicts", expected)
	}
	if done != (expected == "end") {
		w.wrong("%s: done: %t", expected, done)
	}
	if (s.result.Decisions > was.result.Decisions) != (expected == "decide") {
		w.wrong("%s: decisions", expected)
	}
	switch expected {
	case "learn":
		w.learnt(was, is, c, hints, what.Seen, lbd, used)
	case "turn":
		w.turned(was, is, used)
	case "decide":
		w.decided(was, is)
	}
	w.samePhases()
	return done
}

// zero is how many literals of a trail are of level 0.
func (w *walk) zero(st state) int {
	n := 0
	for _, l := range st.trail {
		if st.levels[max(l, -l)-1] == 0 {
			n++
		}
	}
	return n
}

// uses is how much the redundant clauses were used, by their ids.
func (w *walk) uses() map[int64]int {
	l := map[int64]int{}
	if w.seldom {
		return l
	}
	for _, r := range w.s.arena.Refs() {
		if w.s.arena.Red(r) && w.s.arena.Len(r) > 1 {
			_, l[w.s.arena.ID(r)] = w.s.arena.LBD(r)
		}
	}
	return l
}

// unitsOf asks that literals of level 0 have unit clauses.
func (w *walk) unitsOf(l api.Clause) {
	w.t.Helper()
	for _, x := range l {
		if w.s.trail.Levels() > 0 && w.s.trail.Level(cnf.Var(x)) > 0 {
			continue
		}
		if c, live := w.s.base.Get(w.s.units[cnf.Var(x)]); !live || !cnf.Same(c.Lits, lits(x)) {
			w.wrong("%d has the unit %v, %t", x, c, live)
		}
	}
}

// expected is what the chapter has done next, and how many conflicts that is.
func (w *walk) expected(bad bool) (string, int) {
	s, n := w.s, w.s.result.Conflicts
	switch {
	case bad && s.trail.Levels() == 0:
		return "end", 1
	case bad:
		return "learn", 1
	case s.trail.Len() == s.trail.Vars():
		return "end", 0
	case w.o.Conflicts > 0 && n >= w.o.Conflicts, w.o.Ticks > 0 && s.watch.Ticks() >= w.o.Ticks:
		return "end", 0
	case plainTimes(w.o.Reduce, n) > w.reduced, plainTimes(w.o.Rephase, n) > w.turns, w.restart(), w.change():
		return "turn", 0
	}
	return "decide", 0
}

func (w *walk) change() bool {
	return w.o.Mode == 2 && plainTimes(1000, w.s.result.Conflicts) > w.changes
}

func (w *walk) restart() bool {
	if w.stable {
		return w.pending
	}
	return w.s.result.Conflicts-w.began >= 2 && w.fast.value*100 > w.slow.value*int64(w.o.Margin)
}

// learnt asks what was learnt, where it went, and who was bumped.
func (w *walk) learnt(was, is state, c api.Clause, hints []int64, seen []int, lbd int, used map[int64]int) {
	w.t.Helper()
	s := w.s
	got, live := s.base.Get(is.last)
	if !live || is.last != was.last+1 && w.zero(was) == 0 || !slices.Equal(got.Lits, c) || got.Red != (len(c) > 1) {
		w.wrong("learnt %v, %t, want %v", got, live, c)
	}
	level := 0
	for _, l := range c[1:] {
		level = max(level, was.levels[max(l, -l)-1])
	}
	last := is.trail[len(is.trail)-1]
	reason := s.trail.Reason(cnf.Var(last))
	if s.trail.Levels() != level || last != c[0] || s.trail.Level(cnf.Var(last)) != level {
		w.wrong("level %d, want %d; %d is last, want %d", s.trail.Levels(), level, last, c[0])
	}
	if len(c) == 1 && (reason != trail.None || s.units[cnf.Var(last)] != is.last) || len(c) > 1 && s.arena.ID(arena.Ref(reason)) != is.last {
		w.wrong("%d has the reason %d", last, reason)
	}
	if of, used := s.arena.LBD(arena.Ref(reason)); len(c) > 1 && (of != lbd || used != 0) {
		w.wrong("LBD %d, want %d; used %d", of, lbd, used)
	}
	for _, id := range hints {
		if _, may := used[id]; may {
			used[id]++
		}
	}
	if len(c) > 1 && !w.seldom {
		used[is.last] = 0
	}
	if now := w.uses(); !maps.Equal(now, used) {
		w.wrong("used %v, want %v", now, used)
	}
	w.bumped(was, is, seen)
	w.count(lbd)
	w.backTo(was, len(is.trail)-1)
}

// bumped asks that variables stand better than before in the order of the mode, and all is as it was in the other.
func (w *walk) bumped(was, is state, seen []int) {
	w.t.Helper()
	rest := slices.DeleteFunc(slices.Clone(was.order), func(v int) bool { return slices.Contains(seen, v) })
	moved := slices.DeleteFunc(slices.Clone(was.order), func(v int) bool { return !slices.Contains(seen, v) })
	want := append(rest, moved...)
	if w.stable {
		want = was.order
	}
	if !slices.Equal(is.order, want) {
		w.wrong("order %v, want %v", is.order, want)
	}
	halved := false
	for v := range is.scores {
		halved = halved || is.scores[v] < was.scores[v]
	}
	if halved {
		w.counts["halved"]++
	}
	for v := range is.scores {
		if more := w.stable && slices.Contains(seen, v+1); !halved && more != (is.scores[v] > was.scores[v]) || halved && !w.stable {
			w.wrong("the score of %d is %d, was %d; seen %v", v+1, is.scores[v], was.scores[v], seen)
		}
	}
}

// count takes in a conflict plainly.
func (w *walk) count(lbd int) {
	w.fast.add(int64(lbd))
	w.slow.add(int64(lbd))
	w.left--
	if w.left == 0 {
		w.pending = true
		w.ring()
	}
}

// backTo tells the plain phases that the trail is back at so many literals.
func (w *walk) backTo(was state, left int) {
	w.phases.Reach(w.free)
	gone := slices.Clone(was.trail[left:])
	slices.Reverse(gone)
	w.phases.Save(gone)
	w.free = w.free[:min(len(w.free), left)]
}

// turned asks what was done behind going back to level 0.
func (w *walk) turned(was, is state, used map[int64]int) {
	w.t.Helper()
	s, n := w.s, w.s.result.Conflicts
	if s.trail.Levels() != 0 {
		w.wrong("turned at level %d", s.trail.Levels())
	}
	w.backTo(was, len(is.trail))
	if plainTimes(w.o.Reduce, n) > w.reduced {
		w.reduced++
		w.counts["reduce"]++
		for id, used := range w.uses() {
			if used != 0 {
				w.wrong("%d was used %d times since", id, used)
			}
		}
	} else if len(w.uses()) != len(used) {
		w.wrong("clauses went")
	}
	gone := int64(0)
	for id := range used {
		if _, live := s.base.Get(id); !live {
			gone = 1
		}
	}
	if is.result.Reduced != was.result.Reduced+gone && !w.seldom {
		w.wrong("clauses went %d times, were %d, and now %d", is.result.Reduced, was.result.Reduced, gone)
	}
	turns := w.turns
	if plainTimes(w.o.Rephase, n) > w.turns {
		w.turns++
		w.phases.Turn()
	}
	if is.result.Rephased != w.turns || turns != was.result.Rephased {
		w.wrong("phases turned %d times, want %d", is.result.Rephased, w.turns)
	}
	restarts := was.result.Restarts
	if w.restart() {
		restarts++
		w.pending, w.began = false, n
		w.counts["restart"]++
	}
	if is.result.Restarts != restarts {
		w.wrong("%d restarts, want %d", is.result.Restarts, restarts)
	}
	if w.change() {
		w.changes++
		w.stable = !w.stable
		w.pending, w.began = false, n
		w.counts["change"]++
	}
}

// decided asks which variable was decided, and with which value.
func (w *walk) decided(was, is state) {
	w.t.Helper()
	free := func(v int) bool { return was.levels[v-1] < 0 }
	best := 0
	if w.stable {
		for v := 1; v <= w.s.trail.Vars(); v++ {
			if free(v) && (best == 0 || was.scores[v-1] > was.scores[best-1]) {
				best = v
			}
		}
	} else {
		for _, v := range was.order {
			if free(v) {
				best = v
			}
		}
	}
	l := api.Lit(best)
	if yes, _ := w.phases.Decide(best); !yes {
		l = -l
	}
	if want := append(slices.Clone(was.trail), l); !slices.Equal(is.trail, want) || w.s.trail.Level(best) != w.s.trail.Levels() || w.s.trail.Reason(best) != trail.None {
		w.wrong("the trail is %v, want %v", is.trail, want)
	}
}

// samePhases asks that the search's phases are as the plain ones.
func (w *walk) samePhases() {
	w.t.Helper()
	if !slices.Equal(w.s.phases.Saved(), w.phases.Saved()) {
		w.wrong("saved %v, want %v", w.s.phases.Saved(), w.phases.Saved())
	}
	for v := 1; v <= w.s.trail.Vars(); v++ {
		got, _ := w.s.phases.Decide(v)
		if want, _ := w.phases.Decide(v); got != want {
			w.wrong("%d would be decided %t, want %t", v, got, want)
		}
	}
}

// whole asks what holds behind each step.
func (w *walk) whole() {
	w.t.Helper()
	s := w.s
	may := 0
	for _, c := range s.base.Entries() {
		lits, both := cnf.Normal(c.Lits)
		r, there := s.places[c.ID]
		if there != (c.Red && !both && len(lits) > 1) {
			w.wrong("%v stands in places: %t", c, there)
		}
		if there {
			may++
			if s.arena.ID(r) != c.ID || !cnf.Same(s.arena.Lits(r), lits) || s.arena.Len(r) != len(lits) {
				w.wrong("%v does not stand at %d", c, r)
			}
		}
	}
	if may != len(s.places) {
		w.wrong("%d redundant clauses, and places of %d", may, len(s.places))
	}
	if words, waste := s.arena.Words(); waste > 0 && 4*waste >= words {
		w.wrong("%d words, and waste %d", words, waste)
	}
	set := make([]bool, s.trail.Vars())
	for v := range set {
		set[v] = s.trail.Value(api.Lit(v+1)) != 0
		if !set[v] && !s.scores.heap.Has(v+1) {
			w.wrong("%d is not in the heap", v+1)
		}
	}
	want, has := s.line.queue.Next(set)
	if got, ok := s.line.next(); got != want || ok != has {
		w.wrong("next in the queue: %d, want %d", got, want)
	}
}

// The words: each step of many searches is the one that the chapter tells, and leaves what it should.
func TestSteps(t *testing.T) {
	r := rand.New(rand.NewSource(11))
	counts := map[string]int{}
	formulas := []api.Formula{square(), of(3, lits(1), lits(-1, 2), lits(3, -2, -1)), of(0, nil), of(4), holes(4), holes(5), holes(6), hard(r, 30, 128), hard(r, 50, 215), hard(r, 80, 330)}
	for range 10 {
		formulas = append(formulas, drawn(r, 12, 30, 4))
	}
	for _, f := range formulas {
		for i, o := range variants() {
			if f.Vars >= 30 && i%3 > 0 {
				continue
			}
			if i%5 == 0 {
				o.Conflicts = int64(r.Intn(200))
			}
			if i%5 == 1 {
				o.Ticks = int64(r.Intn(20000))
			}
			w := newWalk(t, f, o)
			w.run()
			for what, n := range w.counts {
				counts[what] += n
			}
		}
	}
	t.Log(counts)
	for _, what := range []string{"learn", "turn", "decide", "end", "reduce", "restart"} {
		if counts[what] < 100 {
			t.Errorf("%s: %d", what, counts[what])
		}
	}
}

// The words: with Mode 2 the mode changes at 1000, 3000, .. conflicts; scores that are great are halved. Whether it is time for each thing hangs on nothing else that comes then.
func TestChanges(t *testing.T) {
	for _, change := range []func(o *Options){
		func(o *Options) { o.Restart = 20 },
		func(o *Options) { o.Restart, o.Margin, o.Fast, o.Rephase = 1000000, 100, 0, 1000000 },
		func(o *Options) { o.Restart, o.Margin, o.Rephase = 17, 10000, 1000000 },
		func(o *Options) { o.Restart, o.Margin, o.Rephase = 1000000, 10000, 3 },
		func(o *Options) { o.Restart, o.Margin, o.Reduce, o.Rephase = 1000000, 10000, 2, 1000000 },
	} {
		for mode := range 3 {
			t.Run("", func(t *testing.T) {
				t.Parallel()
				o := Default()
				o.Mode, o.Conflicts = mode, 3050
				change(&o)
				w := newWalk(t, holes(8), o)
				w.seldom = true
				w.run()
				if want := map[int]int{2: 2}[mode]; w.counts["change"] != want || w.stable != (mode != 1) {
					t.Errorf("mode %d: %v", mode, w.counts)
				}
				if (w.counts["halved"] > 0) != (mode != 1) {
					t.Errorf("mode %d: %v", mode, w.counts)
				}
			})
		}
	}
}

// The words: the arena is collected when a quarter of it is waste, not sooner.
func TestCollect(t *testing.T) {
	for _, x := range []struct {
		more api.Clause
		want string
	}{
		{lits(3, 4, 1, 2), "24 0"},
		{lits(3, 4, 1), "23 0"},
		{lits(3, 4, 1, 2, 5), "33 8"},
	} {
		b := made(t, of(5, lits(1, 2, 3, 4), lits(1, 2, 3, -4), x.more))
		for range 2 {
			_, e := b.Add(lits(1, 2, 3, 4), []int64{1}, true)
			must(t, e)
		}
		must(t, b.Drop(1, 4))
		s := newSearch(b, Default(), api.MaxArena)
		s.load()
		s.arena.Kill(s.places[5])
		delete(s.places, 5)
		s.collect()
		if words, waste := s.arena.Words(); fmt.Sprint(words, waste) != x.want {
			t.Errorf("%v: %d words, waste %d, want %s", x.more, words, waste, x.want)
		}
		if len(s.places) != 0 {
			t.Errorf("places %v", s.places)
		}
	}
}

// The words: clauses that were there as redundant ones are loaded so, with an LBD that their literals bound.
func TestLoadRedundant(t *testing.T) {
	b := made(t, of(6, lits(1, 2, 3), lits(4)))
	for _, c := range []api.Clause{lits(1, 2, 3, 3, 6), lits(5, -5, 1), lits(3, 2, 1)} {
		if _, e := b.Add(c, []int64{1}, true); e != api.OK {
			t.Fatal(e)
		}
	}
	_, e := b.Add(lits(4), []int64{2}, true)
	must(t, e)
	s := newSearch(b, Default(), api.MaxArena)
	if _, bad, e := s.load(); bad || e != api.OK {
		t.Fatal(bad, e)
	}
	got := map[int64]string{}
	for id, r := range s.places {
		lbd, used := s.arena.LBD(r)
		got[id] = fmt.Sprint(s.arena.Len(r), lbd, used)
	}
	if want := map[int64]string{3: "4 4 0", 5: "3 3 0"}; fmt.Sprint(got) != fmt.Sprint(want) {
		t.Errorf("%v, want %v", got, want)
	}
}

// The arena is full: at the loading, or at any conflict. Then nothing has changed.
func TestFullArena(t *testing.T) {
	for _, o := range []Options{Default(), small(Default())} {
		b := made(t, holes(5))
		r, e := run(b.Copy(), o, api.MaxArena)
		if e != api.OK {
			t.Fatal(e)
		}
		full, was := 0, told(b)
		enough := false
		for words := 0; !enough; words++ {
			own := b.Copy()
			got, e := run(own, o, words)
			switch {
			case e == api.ErrLimit && fmt.Sprint(got) == fmt.Sprint(Result{}) && told(own) == was:
				full++
			case e == api.OK && fmt.Sprint(got) == fmt.Sprint(r):
				enough = true
			default:
				t.Fatalf("%d words: %v, %d", words, got, e)
			}
		}
		if full < 350 {
			t.Errorf("full %d times", full)
		}
	}
}

// The words: two conflicts behind the last restart at least the next one may be; a change of the mode counts as one.
func TestTwoBehind(t *testing.T) {
	o := Default()
	o.Fast = 0
	s := newSearch(made(t, of(2)), o, api.MaxArena)
	s.reductions.done, s.turns.done = 99, 99
	s.count(1)
	s.count(9)
	for _, x := range []struct {
		conflicts int64
		turn      bool
		want      string
	}{
		{999, false, "0 false true"}, {1000, true, "0 false false"}, {1001, false, "0 false false"}, {1002, false, "0 true true"},
		{1002, true, "1 false false"}, {1003, false, "1 false false"}, {1004, true, "2 false false"}, {1006, false, "2 true true"},
	} {
		s.result.Conflicts = x.conflicts
		if x.turn {
			s.turn()
		}
		if got := fmt.Sprint(s.result.Restarts, s.due(), s.worse()); got != x.want {
			t.Errorf("%d conflicts: %s, want %s", x.conflicts, got, x.want)
		}
	}
}

// Each conflict counts more than the one before, but where scores are halved, and this with them.
func TestScoresGrow(t *testing.T) {
	x, e := trail.New(3)
	must(t, e)
	s := newScores(x)
	halved, last := 0, int64(0)
	for n := range 5000 {
		v := 1 + n%3
		was := s.heap.Score(v)
		s.bump([]int{v})
		is := s.heap.Score(v)
		if is < was {
			halved++
			if s.by < 1<<26 || s.by > 1<<32 {
				t.Fatalf("%d bumps: the next one is by %d", n, s.by)
			}
			last = 0
			continue
		}
		if is-was <= last {
			t.Fatalf("%d bumps: by %d, and by %d before", n, is-was, last)
		}
		last = is - was
	}
	if halved < 5 || halved > 20 {
		t.Errorf("halved %d times", halved)
	}
}

// nearlyFull is a base of a formula with room for so many steps.
func nearlyFull(t *testing.T, f api.Formula, room int) *base.Base {
	t.Helper()
	b := made(t, f)
	for n := api.MaxSteps - room; n > 0; n -= 2 {
		id, e := b.Add(lits(1, -1), nil, true)
		must(t, e)
		if n > 1 {
			must(t, b.Delete(id))
		}
	}
	return b
}

// fill adds so many steps.
func fill(t *testing.T, b *base.Base, n int) {
	t.Helper()
	for range n {
		_, e := b.Add(lits(1, -1), nil, false)
		must(t, e)
	}
}

// without is a base without some of a formula's clauses.
func without(t *testing.T, b *base.Base, f api.Formula, ids ...int64) *base.Base {
	t.Helper()
	b = b.Copy()
	for _, id := range ids {
		must(t, b.Weaken(id, f.Clauses[id-1][:1]))
	}
	return b
}

// kindsOf is where steps of each kind are last, the last one first, and 0.
func kindsOf(l []api.Step) []int {
	last := map[string]int{}
	for i, x := range l {
		last[fmt.Sprint(x.Kind, min(len(x.Lits), 2))] = i
	}
	places := slices.Sorted(maps.Values(last))
	slices.Reverse(places)
	return slices.Compact(append(places, 0))
}

// ending is a clause of a formula, without which a search finds a model, with such steps; with the options, and how many steps.
func ending(t *testing.T, f api.Formula, such func(l []api.Step) bool) (int64, Options, int) {
	t.Helper()
	for _, o := range variants() {
		for i := range f.Clauses {
			b := without(t, made(t, f), f, int64(i+1))
			r, e := Run(b, o)
			must(t, e)
			if l := b.Steps()[1:]; r.Verdict == api.Sat && such(l) {
				return int64(i + 1), o, len(l)
			}
		}
	}
	t.Fatal("there is none")
	return 0, Options{}, 0
}

// limited asks that a search of a base comes to the limit, and that nothing changes by that.
func limited(t *testing.T, b *base.Base, o Options, room int) {
	t.Helper()
	last, entries := b.Last(), fmt.Sprint(b.Entries())
	r, e := Run(b, o)
	if e != api.ErrLimit || fmt.Sprint(r) != fmt.Sprint(Result{}) || b.Last() != last || fmt.Sprint(b.Entries()) != entries || full(b) != (room == 0) {
		t.Errorf("%+v, room for %d: %v, %d", o, room, r, e)
	}
}

// P19.2: a base that is full, or comes to be, at each kind of step: then nothing has changed. If there is just room enough, all is found.
func TestFullBase(t *testing.T) {
	f := holes(4)
	f.Vars += 3
	f.Clauses = append(f.Clauses, lits(13), lits(14, -13), lits(15, -14))
	o := small(Default())
	b := made(t, f)
	r, e := Run(b, o)
	l := b.Steps()
	kinds := kindsOf(l)
	if e != api.OK || r.Verdict != api.Unsat || len(kinds) < 4 {
		t.Fatal(r, e, kinds, l)
	}
	left := len(l) + len(f.Clauses)
	b = nearlyFull(t, f, left)
	for _, such := range []func(l []api.Step) bool{
		func(l []api.Step) bool { return len(l) > 2 && l[len(l)-1].Kind == api.SDel },
		func(l []api.Step) bool { return len(l) == 2 && slices.Equal(l[1].Lits, lits(15)) },
	} {
		id, o, n := ending(t, f, such)
		own := without(t, b, f, id)
		fill(t, own, left-n)
		limited(t, own, o, n-1)
	}
	// Full is full, also where nothing would have to be added.
	var ids []int64
	for i := range f.Clauses {
		ids = append(ids, int64(i+1))
	}
	own := without(t, b, f, ids...)
	fill(t, own, left-len(ids))
	limited(t, own, o, 0)
	wrong := Default()
	wrong.Mode = 3
	if _, e := Run(own, wrong); e != api.ErrArg {
		t.Errorf("wrong options: %d", e)
	}
	fill(t, b, len(f.Clauses))
	own = b.Copy()
	got, e := Run(own, o)
	if _, there := own.Empty(); e != api.OK || !there || fmt.Sprint(got) != fmt.Sprint(r) || !full(own) {
		t.Errorf("room enough: %v, %d, want %v", got, e, r)
	}
	left = len(l)
	for _, room := range kinds {
		fill(t, b, left-room)
		left = room
		limited(t, b, o, room)
	}
}
