package trail

import (
	"fmt"
	"math"
	"slices"
	"testing"

	"threshing/api"
)

const (
	leastLit    = math.MinInt32
	greatestLit = math.MaxInt32
)

// plainLit is a literal of the trail as the chapter speaks of it.
type plainLit struct {
	lit     api.Lit
	decided bool
	reason  int
}

// plainTrail is the chapter's words said plainly: a row of literals, gone through from its beginning on for everything that is asked.
type plainTrail struct {
	vars int
	row  []plainLit
	head int
}

func plainVar(l api.Lit) int64 { return max(int64(l), -int64(l)) }

func (p *plainTrail) there(l api.Lit) bool {
	return l != 0 && plainVar(l) <= int64(p.vars)
}

// at is the place on the trail of the variable v, or -1.
func (p *plainTrail) at(v int) int {
	for i, x := range p.row {
		if plainVar(x.lit) == int64(v) {
			return i
		}
	}
	return -1
}

// levelAt is how many were decided up to that place.
func (p *plainTrail) levelAt(place int) int {
	n := 0
	for i, x := range p.row {
		if x.decided && i <= place {
			n++
		}
	}
	return n
}

func (p *plainTrail) levels() int { return p.levelAt(len(p.row)) }

func (p *plainTrail) lits() api.Clause {
	var c api.Clause
	for _, x := range p.row {
		c = append(c, x.lit)
	}
	return c
}

func (p *plainTrail) decide(l api.Lit) api.Errno {
	if !p.there(l) {
		return 4
	}
	if p.at(int(plainVar(l))) >= 0 {
		return 100
	}
	p.row = append(p.row, plainLit{lit: l, decided: true, reason: -1})
	return 0
}

func (p *plainTrail) assign(l api.Lit, reason int) api.Errno {
	if !p.there(l) {
		return 4
	}
	if reason < -1 {
		return 160
	}
	if p.at(int(plainVar(l))) >= 0 {
		return 100
	}
	p.row = append(p.row, plainLit{lit: l, reason: reason})
	return 0
}

func (p *plainTrail) back(level int) (api.Clause, api.Errno) {
	if level < 0 || level > p.levels() {
		return nil, 101
	}
	var gone api.Clause
	for len(p.row) > 0 && p.levelAt(len(p.row)-1) > level {
		gone = append(gone, p.row[len(p.row)-1].lit)
		p.row = p.row[:len(p.row)-1]
	}
	if p.head > len(p.row) {
		p.head = len(p.row)
	}
	return gone, 0
}

func (p *plainTrail) next() (api.Lit, bool) {
	if p.head == len(p.row) {
		return 0, false
	}
	p.head++
	return p.row[p.head-1].lit, true
}

func (p *plainTrail) move(to []int) api.Errno {
	moved := slices.Clone(p.row)
	for i, x := range moved {
		if x.reason == -1 {
			continue
		}
		if x.reason >= len(to) || to[x.reason] < 0 {
			return 160
		}
		moved[i].reason = to[x.reason]
	}
	p.row = moved
	return 0
}

func (p *plainTrail) value(l api.Lit) int {
	for _, x := range p.row {
		if x.lit == l {
			return 1
		}
		if int64(x.lit) == -int64(l) {
			return -1
		}
	}
	return 0
}

func (p *plainTrail) model() (api.Model, bool) {
	var m api.Model
	for v := 1; v <= p.vars; v++ {
		place := p.at(v)
		if place < 0 {
			return nil, false
		}
		m = append(m, p.row[place].lit == api.Lit(v))
	}
	return m, true
}

// pair is a trail beside a plain one: what is called is called of both, and must be answered alike.
type pair struct {
	t *testing.T
	x *Trail
	p *plainTrail
}

func newPair(t *testing.T, vars int) *pair {
	t.Helper()
	x, e := New(vars)
	if e != api.OK {
		t.Fatalf("New(%d): %d", vars, e)
	}
	return &pair{t, x, &plainTrail{vars: vars}}
}

func (x *pair) like(call string, got, want any) {
	x.t.Helper()
	if g, w := fmt.Sprint(got), fmt.Sprint(want); g != w {
		x.t.Fatalf("%s: %s, want %s", call, g, w)
	}
}

func (x *pair) same(e, want api.Errno, call string, args ...int) api.Errno {
	x.t.Helper()
	if e != want {
		x.t.Fatalf("%s%v: %d, want %d", call, args, e, want)
	}
	return e
}

func (x *pair) decide(l api.Lit) api.Errno {
	x.t.Helper()
	return x.same(x.x.Decide(l), x.p.decide(l), "Decide", int(l))
}

func (x *pair) assign(l api.Lit, reason int) api.Errno {
	x.t.Helper()
	return x.same(x.x.Assign(l, reason), x.p.assign(l, reason), "Assign", int(l), reason)
}

func (x *pair) back(level int) (api.Clause, api.Errno) {
	x.t.Helper()
	got, e := x.x.Back(level)
	want, f := x.p.back(level)
	if e != f || !slices.Equal(got, want) {
		x.t.Fatalf("Back(%d): %v %d, want %v %d", level, got, e, want, f)
	}
	return got, e
}

func (x *pair) next() (api.Lit, bool) {
	x.t.Helper()
	got, ok := x.x.Next()
	want, right := x.p.next()
	if got != want || ok != right {
		x.t.Fatalf("Next: %d %v, want %d %v", got, ok, want, right)
	}
	return got, ok
}

func (x *pair) move(to []int) api.Errno {
	x.t.Helper()
	return x.same(x.x.Move(to), x.p.move(to), "Move", to...)
}

// agree holds all that the trail tells against what the plain one has: of every variable, of those about them, and of the furthest.
func (x *pair) agree() {
	x.t.Helper()
	if x.x.Vars() != x.p.vars || x.x.Levels() != x.p.levels() || x.x.Len() != len(x.p.row) || x.x.head != x.p.head {
		x.t.Fatalf("Vars, Levels, Len, the head: %d %d %d %d, want %d %d %d %d", x.x.Vars(), x.x.Levels(), x.x.Len(), x.x.head, x.p.vars, x.p.levels(), len(x.p.row), x.p.head)
	}
	if got, want := x.x.Lits(), x.p.lits(); !slices.Equal(got, want) {
		x.t.Fatalf("Lits: %v, want %v", got, want)
	}
	got, ok := x.x.Model()
	if want, right := x.p.model(); ok != right || !slices.Equal(got, want) {
		x.t.Fatalf("Model: %v %v, want %v %v", got, ok, want, right)
	}
	for v := -x.p.vars - 2; v <= x.p.vars+2; v++ {
		x.agreeOf(v)
	}
	for _, v := range []int{leastLit, leastLit + 1, greatestLit} {
		x.agreeOf(v)
	}
}

// agreeOf asks of v as a literal, and as a variable.
func (x *pair) agreeOf(v int) {
	x.t.Helper()
	if got, want := x.x.Value(api.Lit(v)), x.p.value(api.Lit(v)); got != want {
		x.t.Fatalf("Value(%d): %d, want %d", v, got, want)
	}
	level, reason, place := -1, -1, x.p.at(v)
	if v < 1 {
		place = -1
	}
	if place >= 0 {
		level, reason = x.p.levelAt(place), x.p.row[place].reason
	}
	if x.x.Level(v) != level || x.x.Reason(v) != reason || x.x.Place(v) != place {
		x.t.Fatalf("Level(%d), Reason, Place: %d %d %d, want %d %d %d", v, x.x.Level(v), x.x.Reason(v), x.x.Place(v), level, reason, place)
	}
}

func lits(l ...api.Lit) api.Clause { return l }
