package search

import (
	"threshing/api"
	"threshing/cnf"
	"threshing/heap"
	"threshing/queue"
	"threshing/trail"
)

const (
	firstBump = 1 << 20 // so much that a part of it is a number, too
	partBump  = 20      // by such a part of itself each conflict counts more than the one before
	halvings  = 30      // how often a heap halves its scores at once
)

// scores tells what is decided next by a heap. All variables without a value are in it.
type scores struct {
	trail *trail.Trail
	heap  *heap.Heap
	by    int64
}

func newScores(t *trail.Trail) *scores {
	h, _ := heap.New(t.Vars())
	for v := 1; v <= t.Vars(); v++ {
		h.Push(v)
	}
	return &scores{trail: t, heap: h, by: firstBump}
}

// next is the first variable of the heap that has no value; those ahead of it leave the heap.
func (s *scores) next() (int, bool) {
	v, ok := s.heap.Pop()
	for ok && s.trail.Value(api.Lit(v)) != 0 {
		v, ok = s.heap.Pop()
	}
	return v, ok
}

// bump gives variables greater scores.
func (s *scores) bump(seen []int) {
	for _, v := range seen {
		// The scores were great when they were halved, and so was this.
		if halved, _ := s.heap.Bump(v, s.by); halved {
			s.by >>= halvings
		}
	}
	s.by = min(s.by+s.by/partBump, heap.Most)
}

// back is told which literals have no value any more.
func (s *scores) back(gone api.Clause) {
	for _, l := range gone {
		s.heap.Push(cnf.Var(l))
	}
}

// line tells what is decided next by a queue.
//
// The queue goes by all variables at its end that are set, each time anew. When that may have come to more than the whole row is long, the row is taken as it stands, and where it was looked last is kept, till it changes.
type line struct {
	trail  *trail.Trail
	queue  *queue.Queue
	set    []bool // the variables of the trail's first literals, so many as are known
	known  int
	walked int
	row    []int // or nothing; of its variables, those from at on have values
	at     int
}

func newLine(t *trail.Trail) *line {
	q, _ := queue.New(t.Vars())
	return &line{trail: t, queue: q, set: make([]bool, t.Vars())}
}

// next is the last variable in the row that has no value.
func (q *line) next() (int, bool) {
	q.walked += q.trail.Len()
	if q.walked <= q.trail.Vars() {
		q.look()
		return q.queue.Next(q.set)
	}
	if q.row == nil {
		q.row = q.queue.Order()
		q.at = len(q.row)
	}
	for ; q.at > 0; q.at-- {
		if v := q.row[q.at-1]; q.trail.Value(api.Lit(v)) == 0 {
			return v, true
		}
	}
	return 0, false
}

// look sets the variables of the literals that came onto the trail.
func (q *line) look() {
	for _, l := range q.trail.Lits()[q.known:] {
		q.set[cnf.Var(l)-1] = true
	}
	q.known = q.trail.Len()
}

// bump moves variables to the row's end.
func (q *line) bump(seen []int) {
	q.queue.Bump(seen...)
	q.walked, q.row = 0, nil
}

// back is told which literals have no value any more.
func (q *line) back(gone api.Clause) {
	for _, l := range gone {
		q.set[cnf.Var(l)-1] = false
	}
	q.known = min(q.known, q.trail.Len())
	q.at = len(q.row)
}
