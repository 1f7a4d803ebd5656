package watch

import (
	"fmt"
	"maps"
	"slices"
	"testing"

	"threshing/api"
	"threshing/arena"
	"threshing/trail"
)

func lits(l ...api.Lit) api.Clause { return l }

func plainVar(l api.Lit) int64 { return max(int64(l), -int64(l)) }

// plainAttach is P11.2 said plainly: what Attach of the clause c, which is live and not attached, is to answer under a trail.
func plainAttach(x *trail.Trail, c api.Clause) (api.Lit, api.Errno) {
	if len(c) < 2 {
		return 0, 2
	}
	for i, l := range c {
		for _, m := range c[:i] {
			if plainVar(l) == plainVar(m) {
				return 0, 2
			}
		}
	}
	for _, l := range c {
		if plainVar(l) > int64(x.Vars()) {
			return 0, 4
		}
	}
	var free, others api.Clause
	for _, l := range c {
		if x.Value(l) == -1 {
			others = append(others, l)
		} else {
			free = append(free, l)
		}
	}
	switch {
	case len(free) >= 2:
		return 0, 0
	case len(free) == 0:
		return 0, 7
	}
	last, greatest := false, 0
	for _, l := range others {
		level := x.Level(int(plainVar(l)))
		last = last || level == x.Levels()
		greatest = max(greatest, level)
	}
	switch {
	case x.Value(free[0]) == 0 && last:
		return free[0], 0
	case x.Value(free[0]) == 1 && x.Level(int(plainVar(free[0]))) <= greatest:
		return 0, 0
	}
	return 0, 7
}

// plainClose is unit propagation said plainly: all that follows from these literals by these clauses, and whether one of them turns false on the way.
func plainClose(from api.Clause, clauses [][]api.Lit) (map[api.Lit]struct{}, bool) {
	set := map[api.Lit]struct{}{}
	for _, l := range from {
		set[l] = struct{}{}
	}
	for again := true; again; {
		again = false
		for _, c := range clauses {
			free, right := plainLeft(c, set)
			if !right && len(free) == 0 {
				return set, true
			}
			if !right && len(free) == 1 {
				set[free[0]] = struct{}{}
				again = true
			}
		}
	}
	return set, false
}

// plainLeft is the literals of c without a value, and whether one is true.
func plainLeft(c []api.Lit, set map[api.Lit]struct{}) ([]api.Lit, bool) {
	var free []api.Lit
	for _, l := range c {
		if _, yes := set[l]; yes {
			return nil, true
		}
		if _, no := set[-l]; !no {
			free = append(free, l)
		}
	}
	return free, false
}

// pair is a watcher beside what is known of it plainly. What is called by it is held against the chapter's words.
type pair struct {
	t        *testing.T
	a        *arena.Arena
	x        *trail.Trail
	w        *Watch
	put      map[arena.Ref]api.Clause // all live clauses of the arena, as they were put
	attached map[arena.Ref]struct{}   // the attached ones
	dead     int                      // attached ones that were killed, and not told by Moved
	head     int                      // how many of the trail's literals were gone through at least
	ids      int64
	ticks    int64
}

func newPair(t *testing.T, vars int, clauses ...api.Clause) *pair {
	t.Helper()
	p := &pair{t: t, a: arena.New(100000), put: map[arena.Ref]api.Clause{}, attached: map[arena.Ref]struct{}{}}
	var e api.Errno
	if p.x, e = trail.New(vars); e != api.OK {
		t.Fatal(e)
	}
	if p.w, e = New(p.a, p.x); e != api.OK {
		t.Fatal(e)
	}
	for _, c := range clauses {
		p.add(c...)
	}
	return p
}

func (p *pair) like(call string, got, want any) {
	p.t.Helper()
	if g, w := fmt.Sprint(got), fmt.Sprint(want); g != w {
		p.t.Fatalf("%s: %s, want %s", call, g, w)
	}
}

// lay puts a clause into the arena.
func (p *pair) lay(c ...api.Lit) arena.Ref {
	p.t.Helper()
	p.ids++
	r, e := p.a.Put(p.ids, c, p.ids%2 == 0, int(p.ids%7))
	if e != api.OK {
		p.t.Fatalf("Put(%v): %d", c, e)
	}
	p.put[r] = slices.Clone(c)
	return r
}

// add puts a clause, attaches it, and puts its literal on the trail, if it is unit.
func (p *pair) add(c ...api.Lit) arena.Ref {
	p.t.Helper()
	r := p.lay(c...)
	l, e := p.attach(r)
	if e != api.OK {
		p.t.Fatalf("Attach of %v: %d", c, e)
	}
	if l != 0 {
		p.assign(l, int(r))
	}
	return r
}

// attach holds Attach against the words, and sees that it changes no trail.
func (p *pair) attach(r arena.Ref) (api.Lit, api.Errno) {
	p.t.Helper()
	var want api.Lit
	e := api.ErrRef
	if c, live := p.put[r]; live {
		if _, there := p.attached[r]; there {
			e = api.ErrTwice
		} else {
			want, e = plainAttach(p.x, c)
		}
	}
	was := told(p.x)
	l, f := p.w.Attach(r)
	if l != want || f != e {
		p.t.Fatalf("Attach(%d) of %v under %s: %d %d, want %d %d", r, p.put[r], was, l, f, want, e)
	}
	p.like("the trail behind Attach", told(p.x), was)
	if f == api.OK {
		p.attached[r] = struct{}{}
	}
	return l, f
}

func (p *pair) decide(l api.Lit) api.Errno { return p.x.Decide(l) }

func (p *pair) assign(l api.Lit, reason int) api.Errno { return p.x.Assign(l, reason) }

func (p *pair) back(level int) {
	p.x.Back(level)
	p.head = min(p.head, p.x.Len())
}

func (p *pair) kill(r arena.Ref) api.Errno {
	e := p.a.Kill(r)
	if _, there := p.attached[r]; there {
		p.dead++
	}
	delete(p.attached, r)
	delete(p.put, r)
	return e
}

// collect collects the arena: what is put and attached is known by the old places till Moved is told.
func (p *pair) collect() []arena.Move { return p.a.Collect() }

// moved holds Moved of what Collect answered, or of a part of it, against the words.
func (p *pair) moved(l []arena.Move) api.Errno {
	p.t.Helper()
	to := map[arena.Ref]arena.Ref{}
	for _, m := range l {
		to[m.From] = m.To
	}
	want := api.OK
	var reasons []int
	for _, l := range p.x.Lits() {
		r := p.x.Reason(int(plainVar(l)))
		q, there := to[arena.Ref(r)]
		if r != trail.None && !there {
			want = api.ErrArg
		}
		if r == trail.None {
			q = trail.None
		}
		reasons = append(reasons, int(q))
	}
	was, row := told(p.x), p.x.Lits()
	if e := p.w.Moved(l); e != want {
		p.t.Fatalf("Moved(%v) under %s: %d, want %d", l, was, e, want)
	}
	p.like("Lits behind Moved", p.x.Lits(), row)
	if want != api.OK {
		p.like("the trail behind Moved", told(p.x), was)
		return want
	}
	for i, l := range row {
		p.like("a reason behind Moved", p.x.Reason(int(plainVar(l))), reasons[i])
	}
	attached := map[arena.Ref]struct{}{}
	for r := range p.attached {
		if q, there := to[r]; there {
			attached[q] = struct{}{}
		}
	}
	p.attached, p.dead = attached, 0
	p.like("Count behind Moved", p.w.Count(), len(attached))
	return want
}

// rename gives what was put its new places: all of what Collect answered, whatever of it Moved was told.
func (p *pair) rename(l []arena.Move) {
	put := map[arena.Ref]api.Clause{}
	for _, m := range l {
		put[m.To] = p.put[m.From]
	}
	p.put = put
}

// told is all that a trail tells of what is on it.
func told(x *trail.Trail) string {
	s := fmt.Sprint(x.Levels())
	for _, l := range x.Lits() {
		v := int(plainVar(l))
		s += fmt.Sprintf(" %d@%d:%d", l, x.Level(v), x.Reason(v))
	}
	return s
}

// rows is the attached clauses, by their places.
func (p *pair) rows() [][]api.Lit {
	var l [][]api.Lit
	for _, r := range slices.Sorted(maps.Keys(p.attached)) {
		l = append(l, p.put[r])
	}
	return l
}

// propagate holds Propagate against unit propagation said plainly.
func (p *pair) propagate() (arena.Ref, bool) {
	p.t.Helper()
	was, row, levels := told(p.x), p.x.Lits(), p.x.Levels()
	set, bad := plainClose(row, p.rows())
	r, found := p.w.Propagate()
	if found != bad {
		p.t.Fatalf("Propagate of %v under %s: %d %v, %v is right", p.rows(), was, r, found, bad)
	}
	now := p.x.Lits()
	if len(now) < len(row) || !slices.Equal(now[:len(row)], row) || p.x.Levels() != levels {
		p.t.Fatalf("Propagate under %s: the trail was changed: %s", was, told(p.x))
	}
	for _, l := range now[len(row):] {
		v := int(plainVar(l))
		if p.x.Reason(v) == trail.None || p.x.Level(v) != levels {
			p.t.Fatalf("Propagate under %s: %d is put wrong: %s", was, l, told(p.x))
		}
	}
	p.reasons()
	if found {
		p.broken(r)
	} else {
		p.closed(set)
		p.like("0 beside false", int(r), 0)
		if l, ok := p.x.Next(); ok {
			p.t.Fatalf("Propagate under %s: %d was not gone through", was, l)
		}
	}
	p.grown(len(now) - p.head)
	if !found {
		p.head = len(now)
	}
	p.agree()
	return r, found
}

// reasons holds the trail's reasons against the words: right, if they are not dead.
func (p *pair) reasons() {
	p.t.Helper()
	for _, l := range p.x.Lits() {
		v := int(plainVar(l))
		r := arena.Ref(p.x.Reason(v))
		c, live := p.put[r]
		if r == trail.None || !live {
			continue
		}
		if _, there := p.attached[r]; !there || !slices.Contains(c, l) {
			p.t.Fatalf("the reason of %d is %v: %s", l, c, told(p.x))
		}
		for _, m := range c {
			if m != l && (p.x.Value(m) != -1 || p.x.Place(int(plainVar(m))) > p.x.Place(v)) {
				p.t.Fatalf("the reason of %d is %v, of which %d is not false ahead of it: %s", l, c, m, told(p.x))
			}
		}
	}
}

// broken sees that an attached clause begins at r, which is false.
func (p *pair) broken(r arena.Ref) {
	p.t.Helper()
	if _, there := p.attached[r]; !there {
		p.t.Fatalf("Propagate: no clause that is attached begins at %d", r)
	}
	for _, l := range p.put[r] {
		if p.x.Value(l) != -1 {
			p.t.Fatalf("Propagate: %v is not false: %s", p.put[r], told(p.x))
		}
	}
}

// closed sees that the trail has just these literals, and that no attached clause is unit or false under it.
func (p *pair) closed(set map[api.Lit]struct{}) {
	p.t.Helper()
	if p.x.Len() != len(set) {
		p.t.Fatalf("Propagate of %v: %s, want %v", p.rows(), told(p.x), slices.Sorted(maps.Keys(set)))
	}
	for l := range set {
		if p.x.Value(l) != 1 {
			p.t.Fatalf("Propagate of %v: %d is not on %s", p.rows(), l, told(p.x))
		}
	}
	for _, c := range p.rows() {
		if free, right := plainLeft(c, set); !right && len(free) < 2 {
			p.t.Fatalf("Propagate: %v is unit or false: %s", c, told(p.x))
		}
	}
}

// grown holds Ticks against P11.5. Literals is how many of the trail's were not gone through yet; one more may have been left early, and each clause may be looked at once more, ahead of them.
func (p *pair) grown(literals int) {
	p.t.Helper()
	n := p.w.Ticks()
	if most := p.ticks + int64((literals+2)*(len(p.attached)+1)); n < p.ticks || n > most {
		p.t.Fatalf("Ticks: %d, want from %d to %d", n, p.ticks, most)
	}
	p.ticks = n
}

// agree holds what the watcher has against what is known of it: Count, that clauses are as they were but for their order, and that each is in the lists of what it watches, and no other live one.
func (p *pair) agree() {
	p.t.Helper()
	if n := p.w.Count(); n < len(p.attached) || n > len(p.attached)+p.dead {
		p.t.Fatalf("Count: %d, want %d, and at most %d dead ones", n, len(p.attached), p.dead)
	}
	if n := p.w.Ticks(); n < p.ticks {
		p.t.Fatalf("Ticks fell from %d to %d", p.ticks, n)
	}
	for r, c := range p.put {
		got := p.a.Lits(r)
		if slices.Sort(got); !slices.Equal(got, slices.Sorted(slices.Values(c))) {
			p.t.Fatalf("the clause %v at %d is %v now", c, r, p.a.Lits(r))
		}
	}
	in := map[entry]int{}
	for n, list := range p.w.lists {
		l := api.Lit(n/2 + 1)
		if n%2 == 1 {
			l = -l
		}
		for _, x := range list {
			if !slices.Contains(p.put[x.ref], x.other) && p.put[x.ref] != nil {
				p.t.Fatalf("%d is none of %v", x.other, p.put[x.ref])
			}
			in[entry{x.ref, l}]++
		}
	}
	for r := range p.attached {
		if c := p.a.Lits(r); in[entry{r, c[0]}] != 1 || in[entry{r, c[1]}] != 1 {
			p.t.Fatalf("%v stands %d and %d times in the lists of what it watches", c, in[entry{r, c[0]}], in[entry{r, c[1]}])
		}
		delete(in, entry{r, p.a.Lit(r, 0)})
		delete(in, entry{r, p.a.Lit(r, 1)})
	}
	for x := range in {
		if _, live := p.put[x.ref]; live {
			p.t.Fatalf("%v stands in the list of %d, which it does not watch", p.put[x.ref], x.other)
		}
	}
}
