package phase

import (
	"fmt"
	"maps"
	"math"
	"math/big"
	"slices"
	"testing"

	"threshing/api"
)

// plainRow is a row's length, and the values of the variables in it; nil is none.
type plainRow struct {
	length int
	values map[int]bool
}

func (r *plainRow) clone() *plainRow {
	if r == nil {
		return nil
	}
	return &plainRow{r.length, maps.Clone(r.values)}
}

// plainStore is the chapter's words said plainly: rows are maps, all turns are counted, and the generator's state is a number of any size, cut to 64 bits.
type plainStore struct {
	n            int
	start        bool
	saved        map[int]bool
	target, best *plainRow
	state        *big.Int
	turned       int
}

func newPlain(n int, start bool, seed uint64) *plainStore {
	p := &plainStore{n: n, start: start, saved: map[int]bool{}, state: new(big.Int).SetUint64(seed)}
	if p.state.Sign() == 0 {
		p.state.SetInt64(1)
	}
	for v := 1; v <= n; v++ {
		p.saved[v] = start
	}
	return p
}

func (p *plainStore) clone() *plainStore {
	q := *p
	q.saved = maps.Clone(p.saved)
	q.target = p.target.clone()
	q.best = p.best.clone()
	q.state = new(big.Int).Set(p.state)
	return &q
}

func (p *plainStore) draw() uint64 {
	xor := func(shifted *big.Int) {
		p.state.Xor(p.state, shifted)
		p.state.Mod(p.state, new(big.Int).Lsh(big.NewInt(1), 64))
	}
	xor(new(big.Int).Lsh(p.state, 13))
	xor(new(big.Int).Rsh(p.state, 7))
	xor(new(big.Int).Lsh(p.state, 17))
	return p.state.Uint64()
}

func (p *plainStore) decide(v int) (bool, api.Errno) {
	if v < 1 || v > p.n {
		return false, 2
	}
	if p.target != nil {
		if value, ok := p.target.values[v]; ok {
			return value, 0
		}
	}
	return p.saved[v], 0
}

// wrong tells whether one of l is no literal of one of its variables.
func (p *plainStore) wrong(l []api.Lit) bool {
	for _, x := range l {
		v := int64(x)
		if v < 0 {
			v = -v
		}
		if v == 0 || v > int64(p.n) {
			return true
		}
	}
	return false
}

func into(values map[int]bool, l []api.Lit) {
	for _, x := range l {
		if x > 0 {
			values[int(x)] = true
		} else {
			values[-int(x)] = false
		}
	}
}

func (p *plainStore) save(l []api.Lit) api.Errno {
	if p.wrong(l) {
		return 2
	}
	into(p.saved, l)
	return 0
}

func (r *plainRow) reached(l []api.Lit) (*plainRow, bool) {
	length := 0
	if r != nil {
		length = r.length
	}
	if len(l) <= length {
		return r, false
	}
	now := &plainRow{len(l), map[int]bool{}}
	into(now.values, l)
	return now, true
}

func (p *plainStore) reach(l []api.Lit) (target, best bool, e api.Errno) {
	if p.wrong(l) {
		return false, false, 2
	}
	p.target, target = p.target.reached(l)
	p.best, best = p.best.reached(l)
	return target, best, 0
}

// kind is that of the k-th turn.
func kind(k int) Kind {
	if k < 2 {
		return []Kind{Original, Inverted}[k]
	}
	return []Kind{Best, Walk, Original, Best, Random, Inverted}[(k-2)%6]
}

func (p *plainStore) turn() (Kind, api.Errno) {
	k := kind(p.turned)
	for v := 1; v <= p.n; v++ {
		switch k {
		case Original:
			p.saved[v] = p.start
		case Inverted:
			p.saved[v] = !p.start
		case Walk:
			if p.draw()%8 == 0 {
				p.saved[v] = !p.saved[v]
			}
		case Random:
			p.saved[v] = p.draw()%2 == 1
		}
	}
	if k == Best && p.best != nil {
		maps.Copy(p.saved, p.best.values)
		p.best = nil
	}
	p.target = nil
	p.turned++
	return k, 0
}

// told is the saved values, in order.
func (p *plainStore) told() []bool {
	var all []bool
	for v := 1; v <= p.n; v++ {
		all = append(all, p.saved[v])
	}
	return all
}

// pair is a store beside a plain one: what is called is called of both, and must be answered alike.
type pair struct {
	t *testing.T
	s *Phases
	p *plainStore
}

func newPair(t *testing.T, n int, start bool, seed uint64) *pair {
	t.Helper()
	s, e := New(n, start, seed)
	if e != api.OK || s == nil {
		t.Fatalf("New(%d, %v, %d): %d", n, start, seed, e)
	}
	return &pair{t, s, newPlain(n, start, seed)}
}

func (x *pair) copy() *pair { return &pair{x.t, x.s.Copy(), x.p.clone()} }

// like holds one answer against another, as they are written.
func (x *pair) like(call string, got, want any) {
	x.t.Helper()
	if g, w := fmt.Sprint(got), fmt.Sprint(want); g != w {
		x.t.Fatalf("%s: %s, want %s", call, g, w)
	}
}

func (x *pair) decide(v int) (bool, api.Errno) {
	x.t.Helper()
	value, e := x.s.Decide(v)
	if w, f := x.p.decide(v); value != w || e != f {
		x.t.Fatalf("Decide(%d): %v %d, want %v %d", v, value, e, w, f)
	}
	return value, e
}

func (x *pair) save(l ...api.Lit) api.Errno {
	x.t.Helper()
	e := x.s.Save(l)
	if f := x.p.save(l); e != f {
		x.t.Fatalf("Save %v: %d, want %d", l, e, f)
	}
	return e
}

func (x *pair) reach(l ...api.Lit) (bool, bool, api.Errno) {
	x.t.Helper()
	target, best, e := x.s.Reach(l)
	if a, b, f := x.p.reach(l); target != a || best != b || e != f {
		x.t.Fatalf("Reach %v: %v %v %d, want %v %v %d", l, target, best, e, a, b, f)
	}
	return target, best, e
}

func (x *pair) turn() (Kind, api.Errno) {
	x.t.Helper()
	k, e := x.s.Turn()
	if w, f := x.p.turn(); k != w || e != f {
		x.t.Fatalf("Turn: %d %d, want %d %d", k, e, w, f)
	}
	return k, e
}

// turns is so many turns, one behind the other, and all that is told behind each.
func (x *pair) turns(n int) {
	x.t.Helper()
	for range n {
		x.turn()
		x.agree()
	}
}

func (x *pair) draw() uint64 {
	x.t.Helper()
	d := x.s.Draw()
	if w := x.p.draw(); d != w {
		x.t.Fatalf("Draw: %d, want %d", d, w)
	}
	return d
}

// agree holds all that the store tells against what the plain one has: of every variable, of those about them, and of the furthest; and of copies how long the rows are, the next draw, and what the next turn makes of it all.
func (x *pair) agree() {
	x.t.Helper()
	if got, want := x.s.Saved(), x.p.told(); !slices.Equal(got, want) {
		x.t.Fatalf("Saved: %v, want %v", got, want)
	}
	for v := -x.p.n - 2; v <= x.p.n+2; v++ {
		x.decide(v)
	}
	for _, v := range far(x.p.n) {
		x.decide(v)
	}
	x.copy().draw()
	if x.p.n > 0 {
		x.agreeLong(x.p.target)
		x.agreeLong(x.p.best)
	}
	y := x.copy()
	y.turn()
	if got, want := y.s.Saved(), y.p.told(); !slices.Equal(got, want) {
		y.t.Fatalf("Saved, once turned: %v, want %v", got, want)
	}
}

// agreeLong asks for a row just as long as that one, and then for one that is longer by one.
func (x *pair) agreeLong(r *plainRow) {
	x.t.Helper()
	length := 0
	if r != nil {
		length = r.length
	}
	y := x.copy()
	l := slices.Repeat([]api.Lit{1}, length+1)
	y.reach(l[:length]...)
	y.reach(l...)
}

// far are numbers that are no variables of a store of n: 0, those below it, and those past n, the furthest and those that n would be by its lower bits.
func far(n int) []int {
	return []int{math.MinInt, math.MinInt + 1, math.MinInt + n, -1 << 32, -1<<32 + n, math.MinInt32, -api.MaxVar, -n - 1, -n - 2, -1, 0, n + 1, n + 2, api.MaxVar + 1, math.MaxInt32, 1 << 31, 1 << 32, 1<<32 + 1, 1<<32 + n, 1 << 62, math.MaxInt - 1, math.MaxInt}
}

// wrongLits are literals of no variable of a store of n.
func wrongLits(n int) []api.Lit {
	past := api.Lit(n + 1)
	return []api.Lit{0, past, -past, past + 1, -past - 1, api.MaxVar + 1, -api.MaxVar - 1, math.MaxInt32, -math.MaxInt32, math.MinInt32}
}

// telling tells what calls answered, one behind the other.
func telling(answers ...any) string { return fmt.Sprintln(answers...) }

func decided(value bool, e api.Errno) string { return fmt.Sprint(value, " ", int(e)) }

func reached(target, best bool, e api.Errno) string {
	return fmt.Sprint(target, " ", best, " ", int(e))
}

func turned(k Kind, e api.Errno) string {
	return fmt.Sprint([]string{"original", "inverted", "best", "walk", "random"}[k], " ", int(e))
}

// bits is values as a text: + is true.
func bits(values []bool) string {
	text := ""
	for _, value := range values {
		if value {
			text += "+"
		} else {
			text += "-"
		}
	}
	return text
}
