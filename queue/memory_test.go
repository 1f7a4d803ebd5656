package queue

import (
	"slices"
	"testing"

	"threshing/api"
)

// kept is all that a queue keeps, copied.
func kept(q *Queue) Queue {
	return Queue{ahead: slices.Clone(q.ahead), behind: slices.Clone(q.behind), ranks: slices.Clone(q.ranks), stamps: slices.Clone(q.stamps), looked: q.looked}
}

func unchanged(q *Queue, was Queue) bool {
	return slices.Equal(q.ahead, was.ahead) && slices.Equal(q.behind, was.behind) && slices.Equal(q.ranks, was.ranks) && slices.Equal(q.stamps, was.stamps) && q.looked == was.looked
}

// some is a queue of which some were moved, and some asked for.
func some(t *testing.T) *pair {
	t.Helper()
	x := with(t, 8, []int{3, 7}, []int{1}, []int{8, 3})
	x.next(just(8, 8, 3)...)
	x.agree()
	x.like("row", x.q.Order(), []int{2, 4, 5, 6, 7, 1, 8, 3})
	return x
}

// Each call that answers an error changes nothing.
func TestErrorChangesNothing(t *testing.T) {
	x := some(t)
	was := kept(x.q)
	check := func(l ...int) {
		t.Helper()
		if e := x.q.Bump(l...); e != api.ErrArg || !unchanged(x.q, was) {
			t.Errorf("Bump %v: %d; unchanged: %v", l, e, unchanged(x.q, was))
		}
	}
	for _, v := range far(8) {
		check(v)
		check(v, v)
		check(2, v)
		check(v, 2)
		check(2, 5, v, 3)
		check(1, 2, 3, 4, 5, 6, 7, 8, v)
		check(v, 1, 2, 3, 4, 5, 6, 7, 8)
	}
	x.agree()
}

// What is only asked changes nothing; neither does Bump of none; and Next not what else is told.
func TestAskingChangesNothing(t *testing.T) {
	x := some(t)
	was := kept(x.q)
	for range 3 {
		x.agree() // all that can be asked, but Next, which is asked of a copy
		x.bump()
		x.copy().bump(4)
		if !unchanged(x.q, was) {
			t.Fatal("changed")
		}
	}
	for _, set := range [][]bool{nil, allBut(8), allBut(8, 2), allBut(8, 5, 6), just(8, 3)} {
		x.next(set...)
		x.agree()
		was.looked = x.q.looked
		if !unchanged(x.q, was) {
			t.Fatal("changed")
		}
	}
}

// P13.5: what is handed in is only read, what lies behind its length included, and not kept.
func TestHandedInOnlyRead(t *testing.T) {
	x := some(t)
	whole := []int{6, 2, 6, 1, 99, 5, 0, 7}
	l := whole[:4]
	x.bump(l...)
	x.bump(whole...)
	if !slices.Equal(whole, []int{6, 2, 6, 1, 99, 5, 0, 7}) {
		t.Errorf("changed: %v", whole)
	}
	x.agree()
	scribble(l)
	x.agree()
	set := []bool{true, false, true, true, false, true, true, true, false, true}
	part := set[:4]
	for range 2 {
		x.next(part...)
		x.next(set...)
		x.next(set[:9]...)
	}
	if !slices.Equal(set, []bool{true, false, true, true, false, true, true, true, false, true}) {
		t.Errorf("changed: %v", set)
	}
	for i := range set {
		set[i] = !set[i]
		x.next(set...)
		x.next(part...)
	}
	x.agree()
}

// scribble writes over a list, and over all that its memory has behind it.
func scribble(l []int) {
	l = l[:cap(l)]
	for i := range l {
		l[i] = 77
	}
}

// P13.5: what is answered is new memory: whoever writes to it changes neither the queue nor another answer.
func TestAnswersAreNew(t *testing.T) {
	x := some(t)
	other := x.q.Order()
	scribble(x.q.Order())
	x.agree()
	if !slices.Equal(other, x.p.row) {
		t.Errorf("Order shares with another answer: %v", other)
	}
	y := x.copy()
	scribble(y.q.Order())
	x.agree()
	y.agree()
	x.bump(4, 1)
	scribble(x.q.Order())
	x.bump(2)
	x.agree()
	y.agree()
	x.bump(x.q.Order()...)
	x.agree()
}

// An answer stays as it was, whatever is called behind it.
func TestAnswersStay(t *testing.T) {
	x := some(t)
	first := x.q.Order()
	x.bump(2, 6)
	second := x.q.Order()
	x.bump(8)
	x.next()
	third := x.q.Order()
	x.bump(1, 2, 3, 4)
	x.agree()
	for i, y := range []struct{ got, want []int }{
		{first, []int{2, 4, 5, 6, 7, 1, 8, 3}},
		{second, []int{4, 5, 7, 1, 8, 3, 2, 6}},
		{third, []int{4, 5, 7, 1, 3, 2, 6, 8}},
	} {
		if !slices.Equal(y.got, y.want) {
			t.Errorf("%d: %v, want %v", i, y.got, y.want)
		}
	}
}

// No queue has anything of another.
func TestTwoQueues(t *testing.T) {
	x, y := some(t), some(t)
	x.bump(2, 4)
	x.next(allBut(8)...)
	y.agree()
	y.bump(8, 6)
	y.next(just(8, 6)...)
	x.agree()
	y.agree()
	newPair(t, 8).agree()
}
