package check

import (
	"math/rand"
	"slices"
	"testing"

	"threshing/api"
)

// plain is the chapter's words, said plainly: clauses in a row, assignments as sets that are copied.
type plain struct {
	ids     []int64
	clauses []api.Clause
	last    int64
	empty   bool
}

func newPlain(f api.Formula) *plain {
	p := &plain{}
	for i, c := range f.Clauses {
		p.put(int64(i)+1, c)
	}
	return p
}

func (p *plain) put(id int64, c api.Clause) {
	p.ids = append(p.ids, id)
	p.clauses = append(p.clauses, slices.Clone(c))
	p.last = id
	p.empty = p.empty || len(c) == 0
}

func (p *plain) get(id int64) (api.Clause, bool) {
	i := slices.Index(p.ids, id)
	if i < 0 {
		return nil, false
	}
	return p.clauses[i], true
}

func (p *plain) cloned() *plain {
	return &plain{slices.Clone(p.ids), slices.Clone(p.clauses), p.last, p.empty}
}

// truths is an assignment: the literals that are true.
type truths map[api.Lit]bool

func (a truths) cloned() truths {
	b := truths{}
	for l := range a {
		b[l] = true
	}
	return b
}

// plainThrough: OK is a conflict, ErrHint a wrong hint, ErrProof neither.
func (p *plain) plainThrough(a truths, hints []int64) api.Errno {
	for _, h := range hints {
		c, ok := p.get(h)
		if !ok {
			return api.ErrHint
		}
		free, isTrue := map[api.Lit]bool{}, false
		for _, l := range c {
			switch {
			case a[l]:
				isTrue = true
			case !a[-l]:
				free[l] = true
			}
		}
		switch {
		case !isTrue && len(free) == 0:
			return api.OK
		case !isTrue && len(free) == 1:
			for l := range free {
				a[l] = true
			}
		default:
			return api.ErrHint
		}
	}
	return api.ErrProof
}

func plainBoth(c api.Clause) bool {
	for _, l := range c {
		if slices.Contains(c, -l) {
			return true
		}
	}
	return false
}

func (p *plain) follows(c api.Clause, hints []int64) api.Errno {
	if plainBoth(c) {
		return api.OK
	}
	a := truths{}
	for _, l := range c {
		a[-l] = true
	}
	first := slices.IndexFunc(hints, func(h int64) bool { return h < 0 })
	if first < 0 {
		first = len(hints)
	}
	if e := p.plainThrough(a, hints[:first]); e != api.ErrProof || len(c) == 0 {
		return e
	}
	groups := map[int64]bool{}
	before := int64(0)
	for i := first; i < len(hints); {
		end := i + 1
		for end < len(hints) && hints[end] > 0 {
			end++
		}
		n := -hints[i]
		d, ok := p.get(n)
		if n <= before || !ok || !slices.Contains(d, -c[0]) {
			return api.ErrHint
		}
		if e := p.holds(d, c[0], a, hints[i+1:end]); e != api.OK {
			return e
		}
		groups[n] = true
		before, i = n, end
	}
	for i, d := range p.clauses {
		if slices.Contains(d, -c[0]) && !groups[p.ids[i]] {
			return api.ErrProof
		}
	}
	return api.OK
}

// holds: does the group of the clause d hold?
func (p *plain) holds(d api.Clause, first api.Lit, a truths, hints []int64) api.Errno {
	b := a.cloned()
	for _, l := range d {
		if l == -first {
			continue
		}
		if a[l] || slices.Contains(d, -l) {
			return api.OK
		}
		b[-l] = true
	}
	return p.plainThrough(b, hints)
}

func plainMayBe(s api.Step) bool {
	for _, l := range s.Lits {
		if l == 0 || max(int64(l), -int64(l)) > 1048576 {
			return false
		}
	}
	for _, h := range s.Hints {
		if h == 0 || h > 4611686018427387903 || h < -4611686018427387903 || s.Kind == 2 && h < 0 {
			return false
		}
	}
	if s.ID > 4611686018427387903 {
		return false
	}
	return s.Kind == 1 && s.ID > 0 || s.Kind == 2 && s.ID >= 0 && len(s.Lits) == 0
}

func (p *plain) step(s api.Step) api.Errno {
	if !plainMayBe(s) {
		return api.ErrStep
	}
	if s.Kind == api.SDel {
		return p.remove(s.Hints)
	}
	if s.ID <= p.last {
		return api.ErrID
	}
	if e := p.follows(s.Lits, s.Hints); e != api.OK {
		return e
	}
	sum := len(s.Lits)
	for _, c := range p.clauses {
		sum += len(c)
	}
	if sum > 16777216 {
		return api.ErrLimit
	}
	p.put(s.ID, s.Lits)
	return api.OK
}

func (p *plain) remove(hints []int64) api.Errno {
	for i, h := range hints {
		if !slices.Contains(p.ids, h) || slices.Contains(hints[:i], h) {
			return api.ErrNone
		}
	}
	for _, h := range hints {
		i := slices.Index(p.ids, h)
		p.ids = slices.Delete(p.ids, i, i+1)
		p.clauses = slices.Delete(p.clauses, i, i+1)
	}
	return api.OK
}

// same asks that a checker tells what the plain one has.
func same(t *testing.T, c *Checker, p *plain) {
	t.Helper()
	if got := c.Live(); !slices.Equal(got, p.ids) {
		t.Errorf("Live: %v, want %v", got, p.ids)
	}
	if got := c.Done(); got != p.empty {
		t.Errorf("Done: %v, want %v", got, p.empty)
	}
	for i, id := range p.ids {
		if got, ok := c.Get(id); !ok || !slices.Equal(got, p.clauses[i]) {
			t.Errorf("Get(%d): %v %v, want %v", id, got, ok, p.clauses[i])
		}
	}
	for _, id := range []int64{-1, 0, p.last + 1, -api.MaxID, api.MaxID, -1 << 63, 1<<63 - 1} {
		_, want := p.get(id)
		if got, ok := c.Get(id); ok != want || !ok && got != nil {
			t.Errorf("Get(%d): %v %v", id, got, ok)
		}
	}
}

// rowsUpTo is all rows of at most n of these.
func rowsUpTo[T any](n int, of ...T) [][]T {
	all := [][]T{nil}
	for from := 0; n > 0; n-- {
		end := len(all)
		for _, row := range all[from:end] {
			for _, x := range of {
				all = append(all, append(slices.Clone(row), x))
			}
		}
		from = end
	}
	return all
}

// P6.2: all short clauses by all short rows of hints, over some small formulas.
func TestAllSmall(t *testing.T) {
	found := map[api.Errno]int{}
	for _, f := range []api.Formula{
		fourClauses(),
		{Vars: 2, Clauses: []api.Clause{{-1, 2}, {-1, -2, 2}, {1, -1}, {-2, -2}}},
		{Vars: 2, Clauses: []api.Clause{{1, 2}, {-1, -1}, {2, -1, 1}, {-2, 1, -2}}},
		{Vars: 2, Clauses: []api.Clause{{2, 2}, {-2, 1}, {-1, -1, -2}, {}}},
	} {
		c, p := made(t, f), newPlain(f)
		for _, lits := range rowsUpTo[api.Lit](2, -2, -1, 1, 2) {
			for _, hints := range rowsUpTo[int64](3, -5, -4, -3, -2, -1, 1, 2, 3, 4, 5) {
				s := added(5, lits, hints...)
				want := p.cloned().step(s)
				if got := c.Step(s); got != want {
					t.Fatalf("%v: %v: %d, want %d", f.Clauses, s, got, want)
				}
				found[want]++
				if want == api.OK {
					c = made(t, f)
				}
			}
		}
		same(t, c, p)
	}
	for _, e := range []api.Errno{api.OK, api.ErrHint, api.ErrProof} {
		if found[e] < 1000 {
			t.Errorf("error %d was told %d times", e, found[e])
		}
	}
}

// drawnClause is a clause with few literals, some of them twice, seldom with a negation.
func drawnClause(r *rand.Rand, vars, most int) api.Clause {
	c := api.Clause{}
	for range r.Intn(most + 1) {
		l := api.Lit(r.Intn(vars) + 1)
		if r.Intn(2) == 0 {
			l = -l
		}
		if slices.Contains(c, -l) && r.Intn(4) > 0 {
			continue
		}
		c = append(c, l)
	}
	return c
}

func drawnFormula(r *rand.Rand, vars int) api.Formula {
	f := api.Formula{Vars: vars}
	for range r.Intn(9) {
		f.Clauses = append(f.Clauses, append(drawnClause(r, vars, 2), drawnClause(r, vars, 1)...))
	}
	return f
}

// found goes on with hints till there is a conflict, or no clause that stands is unit.
func (p *plain) found(a truths) []int64 {
	var hints []int64
	for again := true; again; {
		again = false
		for _, id := range p.ids {
			b := a.cloned()
			switch p.plainThrough(b, []int64{id}) {
			case api.OK:
				return append(hints, id)
			case api.ErrProof:
				hints = append(hints, id)
				again = true
				for l := range b {
					a[l] = true
				}
			}
		}
	}
	return hints
}

// hintsFor is hints by which the clause follows, if there are such.
func (p *plain) hintsFor(r *rand.Rand, c api.Clause) []int64 {
	a := truths{}
	for _, l := range c {
		a[-l] = true
	}
	hints := p.found(a)
	if len(c) == 0 || p.follows(c, hints) == api.OK {
		return hints
	}
	if r.Intn(2) == 0 {
		hints = nil
	}
	a = truths{}
	for _, l := range c {
		a[-l] = true
	}
	p.plainThrough(a, hints)
	for i, d := range p.clauses {
		if !slices.Contains(d, -c[0]) {
			continue
		}
		b := a.cloned()
		for _, l := range d {
			if l != -c[0] {
				b[-l] = true
			}
		}
		hints = append(append(hints, -p.ids[i]), p.found(b)...)
	}
	return hints
}

// drawnStep is a step that may well hold, or one that is spoilt.
func (p *plain) drawnStep(r *rand.Rand, vars int) api.Step {
	id := p.last + 1 + int64(r.Intn(2)*r.Intn(3))
	if r.Intn(30) == 0 {
		id = p.last - int64(r.Intn(2))
	}
	if r.Intn(6) == 0 {
		s := gone(max(id, 0))
		for range r.Intn(3) {
			s.Hints = append(s.Hints, 1+r.Int63n(p.last+1))
		}
		return s
	}
	c := drawnClause(r, vars, 3)
	s := added(id, c, p.hintsFor(r, c)...)
	if len(s.Hints) > 0 && r.Intn(3) == 0 {
		i := r.Intn(len(s.Hints))
		switch r.Intn(5) {
		case 0:
			s.Hints[i] = r.Int63n(2*p.last+3) - p.last - 1
		case 1:
			s.Hints = slices.Delete(s.Hints, i, i+1)
		case 2:
			s.Hints = slices.Insert(s.Hints, i, s.Hints[r.Intn(len(s.Hints))])
		case 3:
			s.Hints[i] = -s.Hints[i]
		case 4:
			j := r.Intn(len(s.Hints))
			s.Hints[i], s.Hints[j] = s.Hints[j], s.Hints[i]
		}
	}
	return s
}

// P6.2, P6.3: many drawn proofs, held against the plain checker step by step, also behind errors.
func TestDrawn(t *testing.T) {
	r := rand.New(rand.NewSource(61))
	found, groups := map[api.Errno]int{}, 0
	for range 4000 {
		vars := 1 + r.Intn(5)
		f := drawnFormula(r, vars)
		c, p := made(t, f), newPlain(f)
		for range 12 {
			s := p.drawnStep(r, vars+1)
			want := p.step(s)
			if got := c.Step(s); got != want {
				t.Fatalf("%v: %v: %d, want %d", p.clauses, s, got, want)
			}
			found[want]++
			if want == api.OK && slices.ContainsFunc(s.Hints, func(h int64) bool { return h < 0 }) {
				groups++
			}
			same(t, c, p)
		}
	}
	for _, e := range []api.Errno{api.OK, api.ErrNone, api.ErrHint, api.ErrProof, api.ErrID} {
		if found[e] < 400 {
			t.Errorf("error %d was told %d times", e, found[e])
		}
	}
	if groups < 500 {
		t.Errorf("%d steps held by groups", groups)
	}
}
