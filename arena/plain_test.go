package arena

import (
	"fmt"
	"slices"
	"testing"

	"threshing/api"
)

// plainClause is a clause as the chapter speaks of it: what it is, where it begins, and how many words it took when it came to lie there.
type plainClause struct {
	begin, took int
	id          int64
	lits        api.Clause
	red, dead   bool
	lbd, used   int
}

// plainArena is the chapter's words said plainly: a list of clauses, looked through from its beginning on for everything that is asked.
type plainArena struct {
	limit   int
	clauses []*plainClause
}

func plainNew(limit int) *plainArena {
	if limit < 0 {
		limit = 0
	}
	if limit > 268435456 {
		limit = 268435456
	}
	return &plainArena{limit: limit}
}

// end is where the row ends.
func (p *plainArena) end() int {
	n := 0
	for _, c := range p.clauses {
		n += c.took
	}
	return n
}

// at is the clause that begins at r, if it is not dead.
func (p *plainArena) at(r Ref) *plainClause {
	for _, c := range p.clauses {
		if c.begin == int(r) && !c.dead {
			return c
		}
	}
	return nil
}

func (p *plainArena) put(id int64, c api.Clause, red bool, lbd int) (Ref, api.Errno) {
	if id < 1 || id > 4611686018427387903 || lbd < 0 || lbd > 65535 {
		return 0, 2
	}
	for _, l := range c {
		if l == 0 {
			return 0, 4
		}
	}
	r := p.end()
	if r+4+len(c) > p.limit {
		return 0, 90
	}
	p.clauses = append(p.clauses, &plainClause{begin: r, took: 4 + len(c), id: id, lits: slices.Clone(c), red: red, lbd: lbd})
	return Ref(r), 0
}

func (p *plainArena) kill(r Ref) api.Errno {
	c := p.at(r)
	if c == nil {
		return 91
	}
	c.dead = true
	return 0
}

func (p *plainArena) shrink(r Ref, n int) api.Errno {
	c := p.at(r)
	if c == nil {
		return 91
	}
	if n < 0 || n > len(c.lits) {
		return 2
	}
	c.lits = c.lits[:n]
	return 0
}

func (p *plainArena) swap(r Ref, i, k int) api.Errno {
	c := p.at(r)
	if c == nil {
		return 91
	}
	if i < 0 || k < 0 || i >= len(c.lits) || k >= len(c.lits) {
		return 2
	}
	was := c.lits[i]
	c.lits[i] = c.lits[k]
	c.lits[k] = was
	return 0
}

func (p *plainArena) mark(r Ref, lbd, used int) api.Errno {
	c := p.at(r)
	if c == nil {
		return 91
	}
	if lbd < 0 || lbd > 65535 || used < 0 || used > 65535 {
		return 2
	}
	c.lbd, c.used = lbd, used
	return 0
}

func (p *plainArena) collect() []Move {
	var moves []Move
	var left []*plainClause
	n := 0
	for _, c := range p.clauses {
		if c.dead {
			continue
		}
		moves = append(moves, Move{From: Ref(c.begin), To: Ref(n)})
		c.begin, c.took = n, 4+len(c.lits)
		n += c.took
		left = append(left, c)
	}
	p.clauses = left
	return moves
}

func (p *plainArena) refs() []Ref {
	var l []Ref
	for _, c := range p.clauses {
		if !c.dead {
			l = append(l, Ref(c.begin))
		}
	}
	return l
}

// waste counts it word by word, as it is said: all of dead clauses, and those behind clauses that were made shorter.
func (p *plainArena) waste() int {
	n := 0
	for _, c := range p.clauses {
		if c.dead {
			n += 4 + len(c.lits)
		}
		n += c.took - 4 - len(c.lits)
	}
	return n
}

// row is the words that the arena must have, as the chapter lays them.
func (p *plainArena) row() []uint32 {
	var row []uint32
	for _, c := range p.clauses {
		state := 0
		if c.red {
			state += 2
		}
		if c.dead {
			state++
		}
		row = append(row, uint32(len(c.lits)*4+state), uint32(c.id%(1<<32)), uint32(c.id/(1<<32)), uint32(c.lbd*65536+c.used))
		for _, l := range c.lits {
			word := int64(l)
			if word < 0 {
				word += 1 << 32
			}
			row = append(row, uint32(word))
		}
		row = append(row, make([]uint32, c.took-4-len(c.lits))...)
	}
	return row
}

// pair is an arena beside a plain one: what is called is called of both, and must be answered alike.
type pair struct {
	t *testing.T
	a *Arena
	p *plainArena
}

func newPair(t *testing.T, limit int) *pair {
	t.Helper()
	return &pair{t, New(limit), plainNew(limit)}
}

func (x *pair) like(call string, got, want any) {
	x.t.Helper()
	if g, w := fmt.Sprint(got), fmt.Sprint(want); g != w {
		x.t.Fatalf("%s: %s, want %s", call, g, w)
	}
}

func (x *pair) put(id int64, c api.Clause, red bool, lbd int) (Ref, api.Errno) {
	x.t.Helper()
	r, e := x.a.Put(id, c, red, lbd)
	s, f := x.p.put(id, c, red, lbd)
	if r != s || e != f {
		x.t.Fatalf("Put(%d, %d literals, %v, %d): %d %d, want %d %d", id, len(c), red, lbd, r, e, s, f)
	}
	return r, e
}

func (x *pair) same(e, want api.Errno, call string, args ...int) api.Errno {
	x.t.Helper()
	if e != want {
		x.t.Fatalf("%s%v: %d, want %d", call, args, e, want)
	}
	return e
}

func (x *pair) kill(r Ref) api.Errno {
	x.t.Helper()
	return x.same(x.a.Kill(r), x.p.kill(r), "Kill", int(r))
}

func (x *pair) shrink(r Ref, n int) api.Errno {
	x.t.Helper()
	return x.same(x.a.Shrink(r, n), x.p.shrink(r, n), "Shrink", int(r), n)
}

func (x *pair) swap(r Ref, i, k int) api.Errno {
	x.t.Helper()
	return x.same(x.a.Swap(r, i, k), x.p.swap(r, i, k), "Swap", int(r), i, k)
}

func (x *pair) mark(r Ref, lbd, used int) api.Errno {
	x.t.Helper()
	return x.same(x.a.Mark(r, lbd, used), x.p.mark(r, lbd, used), "Mark", int(r), lbd, used)
}

func (x *pair) collect() []Move {
	x.t.Helper()
	got, want := x.a.Collect(), x.p.collect()
	if !slices.Equal(got, want) {
		x.t.Fatalf("Collect: %v, want %v", got, want)
	}
	return got
}

// agree holds all that the arena tells against what the plain one has: of every place in the row, of some below and behind it too.
func (x *pair) agree() {
	x.t.Helper()
	end := x.p.end()
	if n, waste := x.a.Words(); n != end || waste != x.p.waste() {
		x.t.Fatalf("Words: %d %d, want %d %d", n, waste, end, x.p.waste())
	}
	if got, want := x.a.Refs(), x.p.refs(); !slices.Equal(got, want) {
		x.t.Fatalf("Refs: %v, want %v", got, want)
	}
	for r := Ref(-5); int(r) <= end+5; r++ {
		x.agreeAt(r)
	}
	if got, want := x.a.words, x.p.row(); !slices.Equal(got, want) {
		x.t.Fatalf("the row: %v, want %v", got, want)
	}
}

func (x *pair) agreeAt(r Ref) {
	x.t.Helper()
	c := x.p.at(r)
	if c == nil {
		c = &plainClause{}
	}
	if got := x.a.Lits(r); !slices.Equal(got, c.lits) || x.a.Len(r) != len(c.lits) {
		x.t.Fatalf("Lits(%d), Len: %v %d, want %v", r, got, x.a.Len(r), c.lits)
	}
	if x.a.ID(r) != c.id || x.a.Red(r) != c.red {
		x.t.Fatalf("ID(%d), Red: %d %v, want %d %v", r, x.a.ID(r), x.a.Red(r), c.id, c.red)
	}
	if lbd, used := x.a.LBD(r); lbd != c.lbd || used != c.used {
		x.t.Fatalf("LBD(%d): %d %d, want %d %d", r, lbd, used, c.lbd, c.used)
	}
	for i := -2; i < len(c.lits)+6; i++ {
		want := api.Lit(0)
		if i >= 0 && i < len(c.lits) {
			want = c.lits[i]
		}
		if got := x.a.Lit(r, i); got != want {
			x.t.Fatalf("Lit(%d, %d): %d, want %d", r, i, got, want)
		}
	}
}

func lits(l ...api.Lit) api.Clause { return l }
