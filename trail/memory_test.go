package trail

import (
	"math"
	"slices"
	"testing"

	"threshing/api"
)

// kept is all that a trail keeps, copied.
func kept(x *Trail) Trail {
	return Trail{vars: slices.Clone(x.vars), lits: slices.Clone(x.lits), begins: slices.Clone(x.begins), head: x.head}
}

func unchanged(x *Trail, was Trail) bool {
	return slices.Equal(x.vars, was.vars) && slices.Equal(x.lits, was.lits) && slices.Equal(x.begins, was.begins) && x.head == was.head
}

// Each call that answers an error changes nothing.
func TestErrorChangesNothing(t *testing.T) {
	x := three(t)
	for range 4 {
		x.next()
	}
	was := kept(x.x)
	check := func(name string, e, want api.Errno) {
		t.Helper()
		if e != want || !unchanged(x.x, was) {
			t.Errorf("%s: %d, want %d; unchanged: %v", name, e, want, unchanged(x.x, was))
		}
		x.agree()
	}
	for _, l := range []api.Lit{leastLit, -10, 0, 10, greatestLit} {
		check("Decide", x.x.Decide(l), api.ErrLit)
		check("Assign", x.x.Assign(l, 0), api.ErrLit)
		check("Assign", x.x.Assign(l, -2), api.ErrLit)
	}
	for _, l := range []api.Lit{1, 9, -9} {
		check("Assign", x.x.Assign(l, -2), api.ErrReason)
		check("Assign", x.x.Assign(l, math.MinInt), api.ErrReason)
	}
	for _, l := range x.x.Lits() {
		check("Decide", x.x.Decide(l), api.ErrValue)
		check("Decide", x.x.Decide(-l), api.ErrValue)
		check("Assign", x.x.Assign(l, None), api.ErrValue)
		check("Assign", x.x.Assign(-l, 50), api.ErrValue)
	}
	for _, level := range []int{math.MinInt, -1, 4, math.MaxInt} {
		gone, e := x.x.Back(level)
		check("Back", e, api.ErrLevel)
		if len(gone) != 0 {
			t.Errorf("Back(%d): %v", level, gone)
		}
	}
	// The reason that is wrong stands behind some that are right.
	to := make([]int, 41)
	for i := range to {
		to[i] = 77
	}
	check("Move", x.x.Move(to[:40]), api.ErrReason)
	to[40] = -1
	check("Move", x.x.Move(to), api.ErrReason)
	to[40], to[0] = 5, -1
	check("Move", x.x.Move(to), api.ErrReason)
}

// What is only asked changes nothing; neither does Next at the end, nor Back to the last level.
func TestAskingChangesNothing(t *testing.T) {
	x := three(t)
	for range 8 {
		x.next()
	}
	was := kept(x.x)
	for range 3 {
		x.agree() // all that can be asked
		x.next()
		x.back(3)
		if !unchanged(x.x, was) {
			t.Fatal("changed")
		}
	}
}

// P10.8: what is handed to Move is only read, what lies behind its length included, and not kept.
func TestMoveReads(t *testing.T) {
	x := newPair(t, 4)
	x.assign(1, 0)
	x.assign(-2, 2)
	behind := []int{3, -4, 1, 66, 77, 88}
	was := slices.Clone(behind)
	x.like("Move", int(x.move(behind[:3])), 0)
	x.like("Move", int(x.move(behind[:3])), 160) // 3 is no place of what was handed in, though one of its memory
	if !slices.Equal(behind, was) {
		t.Fatalf("written over: %v", behind)
	}
	for i := range behind {
		behind[i] = 99
	}
	x.agree()
	x.like("reasons", telling(x.x.Reason(1), x.x.Reason(2)), telling(3, 1))
	x.back(0)
	x.decide(3)
	x.agree()
	if !slices.Equal(behind, slices.Repeat([]int{99}, 6)) {
		t.Errorf("written over: %v", behind)
	}
}

// scribble writes over a list, and over all that its memory has behind it.
func scribble[T any](l []T, v T) {
	l = l[:cap(l)]
	for i := range l {
		l[i] = v
	}
}

// P10.8: what is answered is new memory: whoever writes to it changes neither the trail nor another answer.
func TestAnswersAreNew(t *testing.T) {
	x := three(t)
	x.decide(-9)
	x.agree()
	other := x.x.Lits()
	scribble(x.x.Lits(), 77)
	if !slices.Equal(other, lits(1, 2, -3, 4, -5, 6, 7, 8, -9)) {
		t.Errorf("Lits shares with another answer: %v", other)
	}
	x.agree()
	m, _ := x.x.Model()
	n, _ := x.x.Model()
	scribble(n, false)
	scribble(x.x.Lits(), 77)
	if !slices.Equal(m, api.Model{true, true, false, true, false, true, true, true, false}) {
		t.Errorf("Model shares with another answer: %v", m)
	}
	x.agree()
	last, _ := x.back(2)
	gone, _ := x.back(1)
	scribble(last, 77)
	x.agree()
	if !slices.Equal(gone, lits(6)) {
		t.Errorf("Back shares with another answer: %v", gone)
	}
	scribble(gone, 77)
	x.agree()
	// On again, over what was there.
	x.decide(7)
	x.assign(-6, 3)
	scribble(last, 88)
	scribble(gone, 88)
	x.agree()
	empty, _ := x.back(2)
	scribble(empty, 77)
	x.agree()
}

// An answer stays as it was, whatever is called behind it.
func TestAnswersStay(t *testing.T) {
	x := three(t)
	x.assign(-9, 6)
	all := x.x.Lits()
	m, _ := x.x.Model()
	gone, _ := x.back(1)
	left := x.x.Lits()
	x.decide(-8)
	x.decide(-7)
	x.assign(-6, 1)
	x.assign(9, 1)
	again, _ := x.x.Model()
	gone2, _ := x.back(0)
	x.decide(5)
	x.decide(-4)
	x.decide(3)
	x.agree()
	for i, y := range []struct{ got, want api.Clause }{
		{all, lits(1, 2, -3, 4, -5, 6, 7, 8, -9)},
		{gone, lits(-9, 8, 7, 6)},
		{left, lits(1, 2, -3, 4, -5)},
		{gone2, lits(9, -6, -7, -8, -5, 4, -3)},
	} {
		if !slices.Equal(y.got, y.want) {
			t.Errorf("%d: %v, want %v", i, y.got, y.want)
		}
	}
	if !slices.Equal(m, api.Model{true, true, false, true, false, true, true, true, false}) || !slices.Equal(again, api.Model{true, true, false, true, false, false, false, false, true}) {
		t.Errorf("%v %v", m, again)
	}
}

// No trail has anything of another.
func TestTwoTrails(t *testing.T) {
	x, y := three(t), three(t)
	x.back(0)
	x.next()
	x.decide(-8)
	y.agree()
	y.back(2)
	y.assign(9, 3)
	y.move(slices.Repeat([]int{6}, 41))
	y.agree()
	x.agree()
	newPair(t, 9).agree()
}
