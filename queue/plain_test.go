package queue

import (
	"fmt"
	"math"
	"slices"
	"testing"

	"threshing/api"
)

// plainQueue is the chapter's words said plainly: the row itself, written anew for each move, and gone through for everything that is asked.
type plainQueue struct {
	row    []int
	stamps []int64 // of the variable v at v
	moves  int     // calls that moved one or more
}

func newPlain(n int) *plainQueue {
	p := &plainQueue{stamps: make([]int64, n+1)}
	for v := 1; v <= n; v++ {
		p.row = append(p.row, v)
		p.stamps[v] = int64(v)
	}
	return p
}

// bump: those that stay, as they stood; behind them those that are moved, as they stood.
func (p *plainQueue) bump(l []int) api.Errno {
	for _, v := range l {
		if !slices.Contains(p.row, v) {
			return 2
		}
	}
	if len(l) == 0 {
		return 0
	}
	p.moves++
	var stay, moved []int
	for _, v := range p.row {
		if !slices.Contains(l, v) {
			stay = append(stay, v)
			continue
		}
		moved = append(moved, v)
		p.stamps[v] = int64(len(p.row) + p.moves)
	}
	p.row = append(stay, moved...)
	return 0
}

func (p *plainQueue) next(set []bool) (int, bool) {
	last := 0
	for _, v := range p.row {
		if v > len(set) || !set[v-1] {
			last = v
		}
	}
	return last, last != 0
}

func (p *plainQueue) stamp(v int) int64 {
	if !slices.Contains(p.row, v) {
		return 0
	}
	return p.stamps[v]
}

func (p *plainQueue) clone() *plainQueue {
	return &plainQueue{row: slices.Clone(p.row), stamps: slices.Clone(p.stamps), moves: p.moves}
}

// pair is a queue beside a plain one: what is called is called of both, and must be answered alike.
type pair struct {
	t *testing.T
	q *Queue
	p *plainQueue
}

func newPair(t *testing.T, n int) *pair {
	t.Helper()
	q, e := New(n)
	if e != api.OK || q == nil {
		t.Fatalf("New(%d): %d", n, e)
	}
	return &pair{t, q, newPlain(n)}
}

// with is a pair of n variables for which these were moved, one call behind the other.
func with(t *testing.T, n int, calls ...[]int) *pair {
	t.Helper()
	x := newPair(t, n)
	for _, l := range calls {
		x.bump(l...)
	}
	x.agree()
	return x
}

func (x *pair) copy() *pair { return &pair{x.t, x.q.Copy(), x.p.clone()} }

func (x *pair) like(call string, got, want any) {
	x.t.Helper()
	if g, w := fmt.Sprint(got), fmt.Sprint(want); g != w {
		x.t.Fatalf("%s: %s, want %s", call, g, w)
	}
}

func (x *pair) bump(l ...int) api.Errno {
	x.t.Helper()
	e := x.q.Bump(l...)
	if f := x.p.bump(l); e != f {
		x.t.Fatalf("Bump %v: %d, want %d", l, e, f)
	}
	return e
}

func (x *pair) next(set ...bool) (int, bool) {
	x.t.Helper()
	v, ok := x.q.Next(set)
	if w, right := x.p.next(set); v != w || ok != right {
		x.t.Fatalf("Next %v of %v: %d %v, want %d %v", set, x.p.row, v, ok, w, right)
	}
	return v, ok
}

// agree holds all that the queue tells against what the plain one has: of every variable, of those about them, and of the furthest. (Next is asked of a copy: what is asked behind this is asked as if it had not been.)
func (x *pair) agree() {
	x.t.Helper()
	if got := x.q.Order(); !slices.Equal(got, x.p.row) || x.q.Size() != len(x.p.row) {
		x.t.Fatalf("Order, Size: %v %d, want %v", got, x.q.Size(), x.p.row)
	}
	n := len(x.p.row)
	for v := -n - 2; v <= n+2; v++ {
		x.agreeOf(v)
	}
	for _, v := range far(n) {
		x.agreeOf(v)
	}
	y := x.copy()
	y.next()
	y.next(allBut(n)...)
	x.copy().next(allBut(n)...)
}

func (x *pair) agreeOf(v int) {
	x.t.Helper()
	if got, want := x.q.Stamp(v), x.p.stamp(v); got != want {
		x.t.Fatalf("Stamp(%d): %d, want %d", v, got, want)
	}
}

// allBut is n times true, but for these.
func allBut(n int, vars ...int) []bool {
	set := slices.Repeat([]bool{true}, n)
	for _, v := range vars {
		set[v-1] = false
	}
	return set
}

// just is a set of n places of which these are true.
func just(n int, vars ...int) []bool {
	set := make([]bool, n)
	for _, v := range vars {
		set[v-1] = true
	}
	return set
}

// emptied is the row from its end on, by Next alone: what is told is set then, till all are.
func emptied(q *Queue) []int {
	set := make([]bool, q.Size())
	var all []int
	for v, ok := q.Next(set); ok; v, ok = q.Next(set) {
		all = append(all, v)
		set[v-1] = true
	}
	return all
}

// far are numbers that are no variables of a queue of n: 0, those below it, and those past n, the furthest and those that n would be by its lower bits.
func far(n int) []int {
	return []int{math.MinInt, math.MinInt + 1, math.MinInt + n, -1 << 32, -1<<32 + n, math.MinInt32, -api.MaxVar, -n - 1, -n - 2, -1, 0, n + 1, n + 2, api.MaxVar + 1, math.MaxInt32, 1 << 31, 1 << 32, 1<<32 + 1, 1<<32 + n, 1 << 62, math.MaxInt - 1, math.MaxInt}
}

// telling tells what calls answered, one behind the other.
func telling(answers ...any) string { return fmt.Sprintln(answers...) }

func found(n int, ok bool) string { return fmt.Sprint(n, " ", ok) }
