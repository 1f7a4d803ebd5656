package heap

import (
	"fmt"
	"math"
	"slices"
	"testing"

	"threshing/api"
)

// plainHeap is the chapter's words said plainly: the scores, who is in it, and all of them gone through for everything that is asked.
type plainHeap struct {
	scores []int64 // of the variable v at v
	in     []bool
}

func newPlain(n int) *plainHeap {
	return &plainHeap{scores: make([]int64, n+1), in: make([]bool, n+1)}
}

func (p *plainHeap) there(v int) bool { return v > 0 && v < len(p.scores) }

// before: one comes before another one, if its score is greater; or if the scores are the same, and its number is less.
func (p *plainHeap) before(v, w int) bool {
	return p.scores[v] > p.scores[w] || p.scores[v] == p.scores[w] && v < w
}

func (p *plainHeap) has(v int) bool { return p.there(v) && p.in[v] }

func (p *plainHeap) score(v int) int64 {
	if !p.there(v) {
		return 0
	}
	return p.scores[v]
}

// ahead is how many of all variables v comes before, in it or not.
func (p *plainHeap) ahead(v int) int {
	n := 0
	for w := 1; w < len(p.scores); w++ {
		if p.before(v, w) {
			n++
		}
	}
	return n
}

// order puts each where as many stand ahead of it as come before it.
func (p *plainHeap) order() []int {
	var all []int
	for v := range p.in {
		if p.in[v] {
			all = append(all, v)
		}
	}
	order := make([]int, len(all))
	for _, v := range all {
		place := 0
		for _, w := range all {
			if p.before(w, v) {
				place++
			}
		}
		order[place] = v
	}
	return order
}

func (p *plainHeap) top() (int, bool) {
	for v := range p.in {
		first := p.in[v]
		for w := range p.in {
			first = first && (w == v || !p.in[w] || p.before(v, w))
		}
		if first {
			return v, true
		}
	}
	return 0, false
}

func (p *plainHeap) pop() (int, bool) {
	v, ok := p.top()
	p.in[v] = false
	return v, ok
}

func (p *plainHeap) push(v int) api.Errno {
	if !p.there(v) {
		return 2
	}
	if p.in[v] {
		return 6
	}
	p.in[v] = true
	return 0
}

func (p *plainHeap) remove(v int) api.Errno {
	if !p.there(v) {
		return 2
	}
	if !p.in[v] {
		return 5
	}
	p.in[v] = false
	return 0
}

func (p *plainHeap) bump(v int, by int64) (bool, api.Errno) {
	if !p.there(v) || by < 0 || by > 1152921504606846976 {
		return false, 2
	}
	p.scores[v] += by
	if p.scores[v] <= 1152921504606846976 {
		return false, 0
	}
	for w := range p.scores {
		for range 30 {
			p.scores[w] /= 2
		}
	}
	return true, 0
}

func (p *plainHeap) clone() *plainHeap {
	return &plainHeap{scores: slices.Clone(p.scores), in: slices.Clone(p.in)}
}

// pair is a heap beside a plain one: what is called is called of both, and must be answered alike.
type pair struct {
	t *testing.T
	h *Heap
	p *plainHeap
}

func newPair(t *testing.T, n int) *pair {
	t.Helper()
	h, e := New(n)
	if e != api.OK || h == nil {
		t.Fatalf("New(%d): %d", n, e)
	}
	return &pair{t, h, newPlain(n)}
}

// with is a pair of which these scores are what the variables from 1 on have; none is in it.
func with(t *testing.T, scores ...int64) *pair {
	t.Helper()
	x := newPair(t, len(scores))
	for i, s := range scores {
		x.bump(i+1, s)
	}
	x.agree()
	return x
}

// full is the same with all of them in it, the last one first.
func full(t *testing.T, scores ...int64) *pair {
	t.Helper()
	x := with(t, scores...)
	for v := len(scores); v > 0; v-- {
		x.push(v)
	}
	x.agree()
	return x
}

func (x *pair) copy() *pair { return &pair{x.t, x.h.Copy(), x.p.clone()} }

func (x *pair) like(call string, got, want any) {
	x.t.Helper()
	if g, w := fmt.Sprint(got), fmt.Sprint(want); g != w {
		x.t.Fatalf("%s: %s, want %s", call, g, w)
	}
}

func (x *pair) push(v int) api.Errno {
	x.t.Helper()
	e := x.h.Push(v)
	x.like(fmt.Sprint("Push ", v), int(e), int(x.p.push(v)))
	return e
}

func (x *pair) remove(v int) api.Errno {
	x.t.Helper()
	e := x.h.Remove(v)
	x.like(fmt.Sprint("Remove ", v), int(e), int(x.p.remove(v)))
	return e
}

func (x *pair) pop() (int, bool) {
	x.t.Helper()
	v, ok := x.h.Pop()
	w, right := x.p.pop()
	x.like("Pop", telling(v, ok), telling(w, right))
	return v, ok
}

func (x *pair) bump(v int, by int64) (bool, api.Errno) {
	x.t.Helper()
	halved, e := x.h.Bump(v, by)
	want, f := x.p.bump(v, by)
	x.like(fmt.Sprintf("Bump(%d, %d)", v, by), telling(halved, int(e)), telling(want, int(f)))
	return halved, e
}

// agree holds all that the heap tells against what the plain one has: of every variable, of those about them, and of the furthest.
func (x *pair) agree() {
	x.t.Helper()
	want := x.p.order()
	if got := x.h.Order(); !slices.Equal(got, want) || x.h.Size() != len(want) {
		x.t.Fatalf("Order, Size: %v %d, want %v", got, x.h.Size(), want)
	}
	v, ok := x.h.Top()
	if w, right := x.p.top(); v != w || ok != right {
		x.t.Fatalf("Top: %d %v, want %d %v", v, ok, w, right)
	}
	n := len(x.p.in) - 1
	for v := -n - 2; v <= n+2; v++ {
		x.agreeOf(v)
	}
	for _, v := range far(n) {
		x.agreeOf(v)
	}
}

func (x *pair) agreeOf(v int) {
	x.t.Helper()
	if x.h.Has(v) != x.p.has(v) || x.h.Score(v) != x.p.score(v) {
		x.t.Fatalf("Has(%d), Score: %v %d, want %v %d", v, x.h.Has(v), x.h.Score(v), x.p.has(v), x.p.score(v))
	}
}

// popped is what comes of a copy, popped till none is left.
func popped(h *Heap) []int {
	h = h.Copy()
	var all []int
	for v, ok := h.Pop(); ok; v, ok = h.Pop() {
		all = append(all, v)
	}
	return all
}

// far are numbers that are no variables of a heap of n: 0, those below it, and those past n, the furthest and those that n would be by its lower bits.
func far(n int) []int {
	return []int{math.MinInt, math.MinInt + 1, math.MinInt + n, -1 << 32, -1<<32 + n, math.MinInt32, -api.MaxVar, -n - 1, -n, -2, -1, 0, n + 1, n + 2, api.MaxVar + 1, math.MaxInt32, 1 << 31, 1 << 32, 1<<32 + 1, 1<<32 + n, 1 << 62, math.MaxInt - 1, math.MaxInt}
}

// telling tells what calls answered, one behind the other.
func telling(answers ...any) string { return fmt.Sprintln(answers...) }

func found(n int, ok bool) string { return fmt.Sprint(n, " ", ok) }

func bumped(halved bool, e api.Errno) string { return fmt.Sprint(halved, " ", int(e)) }
