package watch

import (
	"fmt"
	"maps"
	"math/rand"
	"slices"
	"testing"

	"threshing/api"
	"threshing/arena"
	"threshing/trail"
)

// call is one of a row of calls.
type call func(p *pair)

// alphabet is the calls of which all short rows are made.
func alphabet() []call {
	return []call{
		func(p *pair) { p.propagate() },
		func(p *pair) { p.decide(1) },
		func(p *pair) { p.decide(2) },
		func(p *pair) { p.decide(-3) },
		func(p *pair) { p.back(p.x.Levels() - 1) },
		func(p *pair) { p.back(1) },
		func(p *pair) { p.change() },
	}
}

// change kills the first clause that is attached and no reason, and collects; or attaches one that says something of 1 and 2, if there is none.
func (p *pair) change() {
	p.t.Helper()
	for _, r := range slices.Sorted(maps.Keys(p.attached)) {
		if !p.isReason(r) {
			p.kill(r)
			p.sweep()
			return
		}
	}
	p.attempt(lits(-1, -2))
}

// attempt puts a clause and attaches it, if it may be, and puts its literal on the trail, if it is unit.
func (p *pair) attempt(c api.Clause) {
	p.t.Helper()
	r := p.lay(c...)
	if l, e := p.attach(r); e == api.OK && l != 0 {
		p.assign(l, int(r))
	}
}

func (p *pair) isReason(r arena.Ref) bool {
	for _, l := range p.x.Lits() {
		if p.x.Reason(int(plainVar(l))) == int(r) {
			return true
		}
	}
	return false
}

// P11.6: all short rows of calls, over some sets of clauses; behind each of them all is propagated, and the whole way back.
func TestAllRows(t *testing.T) {
	sets := [][]api.Clause{
		{lits(-1, -2), lits(-1, 3), lits(-2, 4)},
		{lits(-1, 2), lits(-2, 3), lits(-1, -3, 4)},
		{lits(4, 3, -1), lits(-4, 3, -2), lits(-1, -2, 3, 4), lits(3, 1)},
		{lits(-1, -2, 3), lits(-2, 3, -1, 4), lits(-4, -1), lits(4, -2)},
	}
	calls := alphabet()
	const length = 5
	for _, set := range sets {
		row := make([]int, length)
		for done := false; !done; done = !count(row, len(calls)) {
			p := newPair(t, 4, set...)
			for _, n := range row {
				calls[n](p)
			}
			for p.propagate(); p.x.Levels() > 0; p.propagate() {
				p.back(p.x.Levels() - 1)
			}
		}
	}
}

// count makes of a row of digits the next one, if there is one.
func count(row []int, base int) bool {
	for i := range row {
		row[i]++
		if row[i] < base {
			return true
		}
		row[i] = 0
	}
	return false
}

// drawnClause has literals of different variables, mostly few.
func drawnClause(r *rand.Rand, vars int) api.Clause {
	n := 2 + r.Intn(3)
	if r.Intn(8) == 0 {
		n = 2 + r.Intn(8)
	}
	c := api.Clause{}
	for _, v := range r.Perm(vars)[:min(n, vars)] {
		c = append(c, drawnSign(r, v+1))
	}
	return c
}

func drawnSign(r *rand.Rand, v int) api.Lit {
	if r.Intn(2) == 0 {
		return api.Lit(-v)
	}
	return api.Lit(v)
}

// drawnRef is where an attached clause begins, if there is one.
func drawnRef(r *rand.Rand, p *pair) (arena.Ref, bool) {
	if len(p.attached) == 0 {
		return 0, false
	}
	return slices.Sorted(maps.Keys(p.attached))[r.Intn(len(p.attached))], true
}

// drawnPlace is mostly where a clause begins, attached or not, else any place about.
func drawnPlace(r *rand.Rand, p *pair) arena.Ref {
	if refs := slices.Sorted(maps.Keys(p.put)); len(refs) > 0 && r.Intn(4) > 0 {
		return refs[r.Intn(len(refs))]
	}
	return arena.Ref(r.Intn(100) - 2)
}

// drawnAttach attaches a drawn clause; what is unit comes onto the trail at once, or behind others that are decided first.
func drawnAttach(r *rand.Rand, p *pair) string {
	vars := p.x.Vars()
	q := p.lay(drawnClause(r, vars)...)
	l, e := p.attach(q)
	if l == 0 {
		return fmt.Sprint("Attach ", int(e))
	}
	for range r.Intn(4) / 2 {
		if v := 1 + r.Intn(vars); int64(v) != plainVar(l) {
			p.decide(drawnSign(r, v))
		}
	}
	switch r.Intn(6) {
	case 0:
		p.decide(l)
	case 1:
		p.assign(l, trail.None)
	default:
		p.assign(l, int(q))
	}
	return "Attach unit"
}

// drawnSweep kills some clauses, reasons among them, and collects; if a reason is dead, its level goes back first, or the watcher cannot be told.
func drawnSweep(r *rand.Rand, p *pair) string {
	p.t.Helper()
	for range r.Intn(3) {
		if q, ok := drawnRef(r, p); ok && (!p.isReason(q) || r.Intn(4) == 0 && p.x.Levels() > 0 && !p.isRoot(q)) {
			p.kill(q)
		}
	}
	l := p.collect()
	name := "Moved"
	for e := p.moved(l); e != api.OK; e = p.moved(l) {
		name = "Moved behind Back"
		p.back(p.x.Levels() - 1)
	}
	p.rename(l)
	return name
}

// isRoot tells whether a literal of level 0 has that reason: it could not go back.
func (p *pair) isRoot(r arena.Ref) bool {
	for _, l := range p.x.Lits() {
		if v := int(plainVar(l)); p.x.Level(v) == 0 && p.x.Reason(v) == int(r) {
			return true
		}
	}
	return false
}

// drawnPart tells Moved but a part of what Collect answered.
func drawnPart(r *rand.Rand, p *pair) string {
	p.t.Helper()
	l := p.collect()
	var some []arena.Move
	for _, m := range l {
		if r.Intn(6) > 0 || p.isReason(m.From) {
			some = append(some, m)
		}
	}
	if p.moved(some) != api.OK {
		p.back(0)
		if p.moved(l) != api.OK {
			p.t.Fatal("a reason at level 0 is dead")
		}
	}
	p.rename(l)
	return "Moved in part"
}

// drawnCall calls something, and tells what. Orderly: literals are decided only where all was propagated, and no clause is false.
func drawnCall(r *rand.Rand, p *pair, orderly bool) string {
	p.t.Helper()
	switch r.Intn(16) {
	default:
		if orderly {
			if _, bad := p.propagate(); bad {
				p.back(r.Intn(p.x.Levels() + 1))
				return "Propagate, and Back"
			}
		}
		p.decide(drawnSign(r, 1+r.Intn(p.x.Vars())))
		return "Decide"
	case 4, 5, 6:
		_, bad := p.propagate()
		return fmt.Sprint("Propagate ", bad)
	case 7, 8:
		p.back(r.Intn(p.x.Levels() + 1))
		return "Back"
	case 9:
		p.back(max(p.x.Levels()-1, 0))
		return "Back by one"
	case 10, 11, 12:
		return drawnAttach(r, p)
	case 13:
		if q, ok := drawnRef(r, p); ok && !p.isRoot(q) {
			p.kill(q)
			return "Kill"
		}
		return "nothing"
	case 14:
		if r.Intn(4) == 0 {
			return drawnPart(r, p)
		}
		return drawnSweep(r, p)
	case 15:
		if r.Intn(6) == 0 {
			p.assign(drawnSign(r, 1+r.Intn(p.x.Vars())), trail.None)
			return "Assign"
		}
		if l, e := p.attach(drawnPlace(r, p)); e == api.OK {
			if l != 0 {
				p.decide(l)
			}
			return "Attach of an old one"
		}
		return "Attach wrong"
	}
}

// P11.2 to P11.6: long rows of drawn calls, orderly and not, each kind many times.
func TestDrawn(t *testing.T) {
	told := map[string]int{}
	for seed := range 1500 {
		r := rand.New(rand.NewSource(int64(seed)))
		p := newPair(t, 2+r.Intn(12))
		for range r.Intn(30) {
			p.attempt(drawnClause(r, p.x.Vars()))
		}
		for range 80 {
			told[drawnCall(r, p, seed%3 == 0)]++
			p.agree()
		}
		for p.propagate(); p.x.Levels() > 0; p.propagate() {
			p.back(p.x.Levels() - 1)
		}
	}
	for _, name := range []string{"Decide", "Propagate, and Back", "Propagate true", "Propagate false", "Back", "Back by one", "Attach 0", "Attach 7", "Attach unit", "Kill", "Moved", "Moved behind Back", "Moved in part", "Assign", "Attach wrong", "Attach of an old one"} {
		if told[name] < 100 {
			t.Errorf("%s: %d times", name, told[name])
		}
	}
}

// P11.6: more variables and clauses, decided till a clause is false, back by some levels, and what was false attached anew in part, as a search does.
func TestDrawnSearch(t *testing.T) {
	for seed := range 12 {
		r := rand.New(rand.NewSource(int64(seed)))
		vars := 20 + r.Intn(60)
		p := newPair(t, vars)
		for range vars * 3 {
			p.attempt(drawnClause(r, vars))
		}
		for range 15 {
			bad := false
			for !bad && p.x.Len() < vars {
				p.decide(drawnSign(r, 1+r.Intn(vars)))
				_, bad = p.propagate()
			}
			if _, ok := p.x.Model(); ok && !bad {
				for _, c := range p.rows() {
					if !slices.ContainsFunc(c, func(l api.Lit) bool { return p.x.Value(l) == 1 }) {
						t.Fatalf("%v is not true under a whole trail", c)
					}
				}
			}
			p.back(r.Intn(p.x.Levels() + 1))
			p.attempt(drawnClause(r, vars))
			if r.Intn(5) == 0 {
				drawnSweep(r, p)
			}
		}
	}
}

// The same calls find the same.
func TestSameTwice(t *testing.T) {
	run := func() string {
		r := rand.New(rand.NewSource(5))
		p := newPair(t, 12)
		s := ""
		for range 400 {
			s += fmt.Sprintln(drawnCall(r, p, false), told(p.x), p.w.Ticks(), p.w.Count())
			for _, r := range p.a.Refs() {
				s += fmt.Sprintln(p.a.Lits(r))
			}
		}
		return s
	}
	if run() != run() {
		t.Error("not the same")
	}
}

// Nothing is promised of an arena and a trail that others change against the rules; but every call ends, and none panics.
func TestAgainstRules(t *testing.T) {
	for seed := range 600 {
		r := rand.New(rand.NewSource(int64(seed)))
		a := arena.New(400)
		x, _ := trail.New(6)
		w, _ := New(a, x)
		other, _ := New(a, x)
		place := func() arena.Ref {
			if refs := a.Refs(); len(refs) > 0 && r.Intn(10) > 0 {
				return refs[r.Intn(len(refs))]
			}
			return arena.Ref(r.Intn(60) - 2)
		}
		for range 200 {
			against(r, a, x, w, other, place)
		}
		w.Propagate()
		other.Propagate()
	}
}

// against calls something that may be against the rules.
func against(r *rand.Rand, a *arena.Arena, x *trail.Trail, w, other *Watch, place func() arena.Ref) {
	switch r.Intn(15) {
	default:
		q, _ := a.Put(1, drawnClause(r, 4+r.Intn(6)), false, 0)
		w.Attach(q)
	case 3:
		x.Decide(drawnSign(r, 1+r.Intn(6)))
	case 4:
		x.Assign(drawnSign(r, 1+r.Intn(6)), []int{r.Intn(40), 1 << 40, 1 << 62, int(place())}[r.Intn(4)])
	case 5:
		x.Back(r.Intn(x.Levels() + 1))
	case 6:
		x.Next()
	case 7:
		w.Propagate()
	case 8:
		a.Collect()
	case 9:
		a.Shrink(place(), r.Intn(3))
	case 10:
		a.Swap(place(), r.Intn(3), r.Intn(3))
	case 11:
		a.Kill(place())
	case 12:
		l := a.Collect()
		for range r.Intn(3) {
			l = append(l, arena.Move{From: place(), To: []arena.Ref{place(), -1, -1 << 62, 1 << 62}[r.Intn(4)]}, arena.Move{From: 1 << 40, To: 3}, arena.Move{From: 1 << 62, To: -3})
		}
		w.Moved(l)
	case 13:
		other.Attach(place())
		other.Propagate()
	case 14:
		w.Attach(place())
	}
	if w.Count() < 0 || w.Ticks() < 0 {
		panic("below 0")
	}
}

// Whatever is called in keeping with the rules, what follows is found.
func FuzzWatch(f *testing.F) {
	f.Add(uint8(3), []byte{0, 1, 2, 250, 10, 1, 20, 10, 2, 20, 30, 1, 20})
	f.Add(uint8(6), []byte{0, 255, 2, 3, 1, 254, 4, 0, 3, 5, 10, 1, 10, 3, 20, 20, 30, 1, 20, 40, 0, 20, 50, 20, 30, 0, 20})
	f.Fuzz(func(t *testing.T, vars uint8, bytes []byte) {
		p := newPair(t, 1+int(vars)%12)
		next := func() int {
			if len(bytes) == 0 {
				return 0
			}
			b := bytes[0]
			bytes = bytes[1:]
			return int(int8(b))
		}
		for calls := 0; len(bytes) > 0 && calls < 200; calls++ {
			switch kind := next(); {
			case kind >= 10 && kind < 20:
				p.decide(api.Lit(next()))
			case kind >= 20 && kind < 30:
				p.propagate()
			case kind >= 30 && kind < 40:
				p.back(next())
			case kind >= 40 && kind < 50:
				if q := arena.Ref(next()); !p.isRoot(q) {
					p.kill(q)
				}
			case kind >= 50 && kind < 60:
				l := p.collect()
				for e := p.moved(l); e != api.OK; e = p.moved(l) {
					p.back(p.x.Levels() - 1)
				}
				p.rename(l)
			default:
				c := api.Clause{api.Lit(kind)}
				for l := next(); l != 0 && len(c) < 8; l = next() {
					c = append(c, api.Lit(l))
				}
				if c[0] != 0 {
					p.attempt(c)
				}
			}
			p.agree()
		}
	})
}
