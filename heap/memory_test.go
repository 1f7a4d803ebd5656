package heap

import (
	"math"
	"slices"
	"testing"

	"threshing/api"
)

// kept is all that a heap keeps, copied.
func kept(h *Heap) Heap {
	return Heap{scores: slices.Clone(h.scores), row: row{vars: slices.Clone(h.row.vars), places: slices.Clone(h.row.places)}}
}

func unchanged(h *Heap, was Heap) bool {
	return slices.Equal(h.scores, was.scores) && slices.Equal(h.row.vars, was.row.vars) && slices.Equal(h.row.places, was.row.places)
}

// some is a heap of which some are in it; the scores of some are alike.
func some(t *testing.T) *pair {
	t.Helper()
	x := full(t, 5, 1<<40, 5, 0, Most, 12, 1<<30+1, 3)
	x.remove(8)
	x.remove(3)
	x.agree()
	return x
}

// Each call that answers an error changes nothing.
func TestErrorChangesNothing(t *testing.T) {
	x := some(t)
	was := kept(x.h)
	check := func(name string, e, want api.Errno) {
		t.Helper()
		if e != want || !unchanged(x.h, was) {
			t.Errorf("%s: %d, want %d; unchanged: %v", name, e, want, unchanged(x.h, was))
		}
		x.agree()
	}
	bump := func(v int, by int64) {
		t.Helper()
		halved, e := x.h.Bump(v, by)
		check("Bump", e, api.ErrArg)
		if halved {
			t.Errorf("Bump(%d, %d): halved", v, by)
		}
	}
	for _, v := range far(8) {
		check("Push", x.h.Push(v), api.ErrArg)
		check("Remove", x.h.Remove(v), api.ErrArg)
		bump(v, 0)
		bump(v, Most)
		bump(v, -1)
	}
	for v := 1; v <= 8; v++ {
		for _, by := range []int64{math.MinInt64, -1, Most + 1, math.MaxInt64} {
			bump(v, by)
		}
		if x.h.Has(v) {
			check("Push", x.h.Push(v), api.ErrTwice)
		} else {
			check("Remove", x.h.Remove(v), api.ErrNone)
		}
	}
}

// What is only asked changes nothing; neither does Pop of nothing, nor Bump by 0.
func TestAskingChangesNothing(t *testing.T) {
	x := some(t)
	was := kept(x.h)
	for range 3 {
		x.agree() // all that can be asked
		popped(x.h)
		for v := 1; v <= 8; v++ {
			x.bump(v, 0)
		}
		if !unchanged(x.h, was) {
			t.Fatal("changed")
		}
	}
	y := newPair(t, 3)
	was = kept(y.h)
	y.pop()
	if !unchanged(y.h, was) {
		t.Fatal("changed")
	}
}

// scribble writes over a list, and over all that its memory has behind it.
func scribble(l []int) {
	l = l[:cap(l)]
	for i := range l {
		l[i] = 77
	}
}

// What is answered is new memory: whoever writes to it changes neither the heap nor another answer.
func TestAnswersAreNew(t *testing.T) {
	x := some(t)
	want := x.p.order()
	other := x.h.Order()
	scribble(x.h.Order())
	x.agree()
	if !slices.Equal(other, want) {
		t.Errorf("Order shares with another answer: %v", other)
	}
	y := x.copy()
	scribble(y.h.Order())
	x.agree()
	y.agree()
	x.pop()
	x.push(8)
	scribble(x.h.Order())
	x.push(3)
	x.agree()
	y.agree()
	for range 8 {
		x.pop()
	}
	scribble(x.h.Order())
	x.agree()
	for v := 1; v <= 8; v++ {
		x.push(v)
		x.agree()
	}
}

// An answer stays as it was, whatever is called behind it.
func TestAnswersStay(t *testing.T) {
	x := some(t)
	first := x.h.Order()
	x.pop()
	x.bump(6, 1<<50)
	second := x.h.Order()
	x.push(8)
	x.bump(4, Most)
	x.bump(4, Most)
	third := x.h.Order()
	for range 8 {
		x.pop()
	}
	x.push(1)
	x.agree()
	for i, y := range []struct{ got, want []int }{
		{first, []int{5, 2, 7, 6, 1, 4}},
		{second, []int{6, 2, 7, 1, 4}},
		{third, []int{4, 6, 2, 7, 1, 8}},
	} {
		if !slices.Equal(y.got, y.want) {
			t.Errorf("%d: %v, want %v", i, y.got, y.want)
		}
	}
}

// No heap has anything of another.
func TestTwoHeaps(t *testing.T) {
	x, y := some(t), some(t)
	x.pop()
	x.bump(5, Most)
	x.push(3)
	y.agree()
	y.remove(2)
	y.bump(1, 60)
	x.agree()
	y.agree()
	newPair(t, 8).agree()
}
