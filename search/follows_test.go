package search

import (
	"math/rand"
	"testing"

	"threshing/api"
	"threshing/base"
	"threshing/truth"
)

// all is all clauses over some variables in which each literal is there or not, tautologies too.
func all(vars int) []api.Clause {
	var l []api.Clause
	for n := range 1 << (2 * vars) {
		var c api.Clause
		for i := range 2 * vars {
			if n>>i&1 == 1 {
				v := api.Lit(i/2 + 1)
				if i&1 == 1 {
					v = -v
				}
				c = append(c, v)
			}
		}
		l = append(l, c)
	}
	return l
}

// strict is the clauses of all in which no variable is twice.
func strict(vars int) []api.Clause {
	var l []api.Clause
	for _, c := range all(vars) {
		both := false
		for _, x := range c {
			for _, y := range c {
				both = both || x == -y
			}
		}
		if !both {
			l = append(l, c)
		}
	}
	return l
}

// P19.5: all sets of clauses over two variables, each by options of some kind.
func TestAllOfTwo(t *testing.T) {
	kinds, of2 := variants(), strict(2)
	count := 0
	for n := range 1 << len(of2) {
		f := api.Formula{Vars: 2}
		for i, c := range of2 {
			if n>>i&1 == 1 {
				f.Clauses = append(f.Clauses, c)
			}
		}
		if decided(t, f, kinds[n*7%len(kinds)]) == api.Sat {
			count++
		}
	}
	if count == 0 || count == 1<<len(of2) {
		t.Error(count)
	}
}

// P19.5: all rows of up to three clauses over two variables, tautologies too, whatever the order.
func TestAllRows(t *testing.T) {
	kinds, of2 := variants(), all(2)
	n := 0
	for _, a := range of2 {
		for _, b := range of2 {
			for _, c := range of2 {
				n++
				decided(t, of(2, a, b, c), kinds[n%len(kinds)])
			}
			decided(t, of(2, a, b), kinds[n%len(kinds)])
		}
	}
}

// P19.2 to P19.5: drawn formulas of few variables, of many shapes.
func TestDrawn(t *testing.T) {
	r := rand.New(rand.NewSource(19))
	kinds := variants()
	verdicts := map[uint8]int{}
	for n := range 4000 {
		vars := 1 + r.Intn(8)
		f := drawn(r, vars, r.Intn(6*vars), 1+r.Intn(4))
		verdicts[decided(t, f, kinds[n%len(kinds)])]++
	}
	if verdicts[api.Sat] < 500 || verdicts[api.Unsat] < 500 {
		t.Error(verdicts)
	}
}

// P19.5: formulas that are hard for how many variables they have, held against layer 3.
func TestHard(t *testing.T) {
	r := rand.New(rand.NewSource(3))
	kinds := variants()
	verdicts := map[uint8]int{}
	for n := range 500 {
		vars := 9 + r.Intn(api.MaxTruth-8)
		f := hard(r, vars, vars*43/10+r.Intn(9))
		_, has, e := truth.Find(f)
		if e != api.OK {
			t.Fatal(e)
		}
		got := decided(t, f, kinds[n%len(kinds)])
		verdicts[got]++
		if has != (got == api.Sat) {
			t.Errorf("%v: verdict %d, and it has a model: %t", f, got, has)
		}
	}
	if verdicts[api.Sat] < 100 || verdicts[api.Unsat] < 100 {
		t.Error(verdicts)
	}
}

// P19.2 to P19.4: bases on which much was done ahead: clauses that came in, redundant or not, that were kept, deleted, dropped, weakened; budgets, and going on.
func TestDrawnBases(t *testing.T) {
	r := rand.New(rand.NewSource(4))
	kinds := variants()
	verdicts := map[uint8]int{}
	for n := range 2000 {
		vars := 2 + r.Intn(7)
		b := made(t, drawn(r, vars, vars+r.Intn(4*vars), 3))
		for range r.Intn(20) {
			change(r, b)
		}
		o := kinds[n%len(kinds)]
		if r.Intn(3) == 0 {
			o.Conflicts = int64(r.Intn(4))
		}
		if r.Intn(3) == 0 {
			o.Ticks = int64(r.Intn(60))
		}
		for range 1 + r.Intn(3) {
			verdicts[searched(t, b, o).Verdict]++
			change(r, b)
		}
	}
	if verdicts[api.Sat] < 200 || verdicts[api.Unsat] < 200 || verdicts[api.Unknown] < 50 {
		t.Error(verdicts)
	}
}

// change does one thing to a base, if that may be done.
func change(r *rand.Rand, b *base.Base) {
	l := b.Entries()
	if len(l) == 0 {
		return
	}
	c, d := l[r.Intn(len(l))], l[r.Intn(len(l))]
	switch r.Intn(6) {
	case 0:
		b.Add(append(c.Lits, drawn(r, b.Vars(), 1, 2).Clauses[0]...), []int64{c.ID}, r.Intn(2) == 0)
	case 1:
		v := api.Lit(1 + r.Intn(b.Vars()))
		b.Add(api.Clause{v, -v}, nil, r.Intn(2) == 0)
	case 2:
		b.Keep(c.ID)
	case 3:
		b.Delete(c.ID)
	case 4:
		b.Drop(c.ID, d.ID)
	case 5:
		b.Weaken(c.ID, c.Lits[:min(1, len(c.Lits))])
	}
}

// P19.2, P19.5: pigeons, in each mode, with all options of a kind.
func TestPigeons(t *testing.T) {
	for _, o := range variants() {
		if got := decided(t, holes(6), o); got != api.Unsat {
			t.Errorf("%+v: %d", o, got)
		}
	}
	for mode := range 3 {
		o := Default()
		o.Mode, o.Restart, o.Reduce, o.Rephase = mode, 5, 20, 30
		r := proved(t, holes(7), o)
		if r.Verdict != api.Unsat || r.Restarts == 0 || r.Reduced == 0 || r.Rephased == 0 {
			t.Errorf("%+v: %v", o, r)
		}
	}
	o := Default()
	if r := proved(t, holes(8), o); r.Verdict != api.Unsat || r.Conflicts < 1000 {
		t.Errorf("%+v: %v", o, r)
	}
}

// P19.5: as many pigeons as holes, and formulas with one model alone.
func TestHarderModels(t *testing.T) {
	for _, o := range variants() {
		f := holes(7)
		f.Clauses = f.Clauses[:len(f.Clauses)-1]
		if got := decided(t, f, o); got != api.Sat {
			t.Errorf("%+v: %d", o, got)
		}
		r := rand.New(rand.NewSource(int64(o.Seed)))
		m := make(api.Model, 60)
		for v := range m {
			m[v] = r.Intn(2) == 0
		}
		if got := decided(t, satisfied(r, m, 600), o); got != api.Sat {
			t.Errorf("%+v: %d", o, got)
		}
	}
}

// satisfied is a hard formula of clauses that are true in a model.
func satisfied(r *rand.Rand, m api.Model, clauses int) api.Formula {
	f := api.Formula{Vars: len(m)}
	for len(f.Clauses) < clauses {
		c := hard(r, len(m), 1).Clauses[0]
		if m[r.Intn(len(m))] && r.Intn(2) == 0 {
			continue
		}
		for _, l := range c {
			if v := max(l, -l); m[v-1] == (l > 0) {
				f.Clauses = append(f.Clauses, c)
				break
			}
		}
	}
	return f
}

// P19.4: searches of one base and options, one behind the other and many at once, are the same.
func TestSame(t *testing.T) {
	o := small(Default())
	b := made(t, holes(5))
	r, e := Run(b, o)
	if e != api.OK {
		t.Fatal(e)
	}
	first, want := r, told(b)
	answers := make(chan string)
	for range 8 {
		go func() {
			b, _ := base.New(holes(5))
			r, _ := Run(b, o)
			if r.Conflicts != first.Conflicts || r.Ticks != first.Ticks {
				answers <- "another result"
				return
			}
			answers <- told(b)
		}()
	}
	for range 8 {
		if got := <-answers; got != want {
			t.Errorf("%s, want %s", got, want)
		}
	}
}

// P19.1: each option but the budgets is heeded: with it alone another one, the search is another one.
func TestHeeded(t *testing.T) {
	plain := Default()
	plain.Restart, plain.Reduce, plain.Rephase = 10, 20, 20
	r := rand.New(rand.NewSource(8))
	formulas := []api.Formula{holes(6), hard(r, 60, 260), hard(r, 100, 430)}
	for name, x := range map[string]struct {
		mode   int
		change func(o *Options)
	}{
		"Seed":      {0, func(o *Options) { o.Seed = 77 }},
		"Phase":     {0, func(o *Options) { o.Phase = false }},
		"Mode 0, 1": {0, func(o *Options) { o.Mode = 1 }},
		"Mode 1, 2": {1, func(o *Options) { o.Mode = 2 }},
		"Restart":   {0, func(o *Options) { o.Restart = 3 }},
		"Margin":    {1, func(o *Options) { o.Margin = 150 }},
		"Fast":      {1, func(o *Options) { o.Fast = 2 }},
		"Slow":      {1, func(o *Options) { o.Slow = 3 }},
		"Reduce":    {0, func(o *Options) { o.Reduce = 50 }},
		"Glue":      {0, func(o *Options) { o.Glue = 6 }},
		"Part":      {0, func(o *Options) { o.Part = 90 }},
		"Rephase":   {0, func(o *Options) { o.Rephase = 50 }},
		"Minimise":  {0, func(o *Options) { o.Minimise = false }},
		"Shrink":    {0, func(o *Options) { o.Shrink = false }},
	} {
		unlike := false
		for _, f := range formulas {
			o := plain
			o.Mode = x.mode
			b, other := made(t, f), made(t, f)
			searched(t, b, o)
			x.change(&o)
			searched(t, other, o)
			unlike = unlike || told(b) != told(other)
		}
		if !unlike {
			t.Errorf("%s changes nothing", name)
		}
	}
}

// What options rule out: no clause goes, if no part of them may; all that may go, if all are to.
func TestPart(t *testing.T) {
	for mode := range 3 {
		o := small(Default())
		o.Mode, o.Part = mode, 0
		b := made(t, holes(6))
		r := searched(t, b, o)
		for _, x := range b.Rules() {
			if x.Kind == api.RDelete {
				t.Fatalf("%v went", x)
			}
		}
		if r.Reduced != 0 {
			t.Errorf("%v", r)
		}
		o.Part, o.Glue = 100, 100
		b = made(t, holes(6))
		r = searched(t, b, o)
		for _, x := range b.Rules() {
			if x.Kind == api.RDelete {
				t.Fatalf("%v went", x)
			}
		}
		if r.Reduced != 0 {
			t.Errorf("%v", r)
		}
		o.Glue = 0
		b = made(t, holes(6))
		r = searched(t, b, o)
		gone := int64(0)
		for _, x := range b.Rules() {
			if x.Kind == api.RDelete {
				gone++
			}
		}
		if r.Reduced == 0 || gone < r.Reduced {
			t.Errorf("%v, and %d went", r, gone)
		}
	}
}

// FuzzRun asks all that is promised of a base and options that bytes say.
func FuzzRun(f *testing.F) {
	f.Add([]byte{3, 0, 0, 0, 1, 2, 255, 0, 254, 0, 253, 3})
	f.Add([]byte{8, 0, 31, 1, 1, 2, 0, 255, 2, 0, 1, 254, 0, 255, 254})
	f.Add([]byte{5, 2, 200, 3})
	f.Fuzz(func(t *testing.T, l []byte) {
		if len(l) < 4 || len(l) > 200 {
			return
		}
		vars := 1 + int(l[0])%8
		kinds := variants()
		o := kinds[int(l[1])%len(kinds)]
		o.Conflicts, o.Ticks = int64(l[2]%8), int64(l[3]%64)
		c := api.Formula{Vars: vars, Clauses: []api.Clause{nil}}
		for _, x := range l[4:] {
			lit := api.Lit(int8(x)) % api.Lit(vars+1)
			if lit == 0 {
				c.Clauses = append(c.Clauses, nil)
				continue
			}
			last := &c.Clauses[len(c.Clauses)-1]
			*last = append(*last, lit)
		}
		if len(c.Clauses[0]) == 0 {
			c.Clauses = c.Clauses[1:]
		}
		proved(t, c, o)
		o.Conflicts, o.Ticks = 0, 0
		decided(t, c, o)
	})
}
