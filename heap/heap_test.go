package heap

import (
	"fmt"
	"math"
	"slices"
	"testing"

	"threshing/api"
)

// The chapter's examples.
func TestExamples(t *testing.T) {
	h, e := New(4)
	none, wrong := New(-1)
	for i, y := range []struct{ got, want string }{
		{fmt.Sprint(int(e)), "0"},
		{fmt.Sprint(int(h.Push(3)), int(h.Push(1)), int(h.Push(3)), int(h.Push(5))), "0 0 6 2"},
		{found(h.Top()), "1 true"},
		{fmt.Sprint(h.Size()), "2"},
		{bumped(h.Bump(3, 5)), "false 0"},
		{fmt.Sprint(h.Order()), "[3 1]"},
		{found(h.Pop()), "3 true"},
		{found(h.Pop()), "1 true"},
		{found(h.Pop()), "0 false"},
		{bumped(h.Bump(2, 1<<60)), "false 0"},
		{bumped(h.Bump(2, 1)), "true 0"},
		{fmt.Sprint(h.Score(2), h.Score(3)), "1073741824 0"},
		{bumped(h.Bump(2, -1)), "false 2"},
		{fmt.Sprint(int(h.Remove(2))), "5"},
		{fmt.Sprint(none == nil, int(wrong)), "true 2"},
	} {
		if y.got != y.want {
			t.Errorf("%d: %s, want %s", i, y.got, y.want)
		}
	}
}

// The same calls beside the plain one, which must be right if it is to stand for the chapter.
func TestExamplesPlain(t *testing.T) {
	x := newPair(t, 4)
	x.like("Push", telling(int(x.push(3)), int(x.push(1)), int(x.push(3)), int(x.push(5))), telling(0, 0, 6, 2))
	x.agree()
	x.like("Bump", bumped(x.bump(3, 5)), "false 0")
	x.agree()
	x.like("the plain order", x.p.order(), "[3 1]")
	x.like("Pop", telling(found(x.pop()), found(x.pop()), found(x.pop())), telling("3 true", "1 true", "0 false"))
	x.agree()
	x.like("Bump", telling(bumped(x.bump(2, 1<<60)), bumped(x.bump(2, 1))), telling("false 0", "true 0"))
	x.like("the plain scores", x.p.scores, "[0 0 1073741824 0 0]")
	x.agree()
	x.like("wrong", telling(bumped(x.bump(2, -1)), int(x.remove(2))), telling("false 2", 5))
	x.agree()
}

// Most is a number that callers write.
func TestMost(t *testing.T) {
	if int64(Most) != 1152921504606846976 {
		t.Error(int64(Most))
	}
}

// P12.1: how many variables there may be, and what a new heap is.
func TestNew(t *testing.T) {
	for _, n := range []int{math.MinInt, math.MinInt + 1, -1 << 32, -1<<32 + 4, -api.MaxVar, -2, -1, 1048577, 1048578, 1 << 31, 1 << 32, 1<<32 + 4, 1 << 62, math.MaxInt} {
		if h, e := New(n); h != nil || e != api.ErrArg {
			t.Errorf("New(%d): %v %d", n, h, e)
		}
	}
	for _, n := range []int{0, 1, 2, 3, 100} {
		x := newPair(t, n)
		x.agree()
		x.pop()
		x.agree()
	}
	for _, n := range []int{1048575, 1048576} {
		h, e := New(n)
		if e != api.OK || h.Size() != 0 || len(h.Order()) != 0 {
			t.Fatalf("New(%d): %d", n, e)
		}
		if got := telling(h.Has(n), h.Score(n), int(h.Push(n)), int(h.Push(n)), int(h.Push(n+1)), int(h.Push(1)), h.Order(), bumped(h.Bump(n, 1)), bumped(h.Bump(n+1, 1)), h.Order(), int(h.Remove(n+1)), int(h.Remove(n)), found(h.Top())); got != telling(false, 0, 0, 6, 2, 0, []int{1, n}, "false 0", "false 2", []int{n, 1}, 2, 0, "1 true") {
			t.Errorf("New(%d): %s", n, got)
		}
	}
}

// P12.1: a heap of no variables has none, whatever is called.
func TestNoVariables(t *testing.T) {
	x := newPair(t, 0)
	for _, v := range append(far(0), 1) {
		x.like(fmt.Sprint(v), telling(int(x.push(v)), int(x.remove(v)), bumped(x.bump(v, 0)), bumped(x.bump(v, Most)), found(x.pop())), telling(2, 2, "false 2", "false 2", "0 false"))
		x.agree()
		x.copy().agree()
	}
}

// P12.1: of a nil heap calls with an error answer ErrNil, whatever else is wrong; all else nothing.
func TestNil(t *testing.T) {
	var h *Heap
	for _, v := range append(far(3), 1, 2, 3, api.MaxVar) {
		for _, by := range []int64{math.MinInt64, -1, 0, 1, Most, Most + 1, math.MaxInt64} {
			if got := bumped(h.Bump(v, by)); got != "false 1" {
				t.Errorf("Bump(%d, %d): %s", v, by, got)
			}
		}
		if got := telling(int(h.Push(v)), int(h.Remove(v)), h.Has(v), h.Score(v)); got != telling(1, 1, false, 0) {
			t.Errorf("%d: %s", v, got)
		}
	}
	if got := telling(found(h.Pop()), found(h.Top()), h.Size(), len(h.Order()), h.Copy() == nil); got != telling("0 false", "0 false", 0, 0, true) {
		t.Error(got)
	}
}

// A heap that was not made by New has no variables: no call of it panics.
func TestNotMade(t *testing.T) {
	x := &pair{t, &Heap{}, newPlain(0)}
	for range 2 {
		for _, v := range []int{-1, 0, 1} {
			x.like("wrong", telling(int(x.push(v)), int(x.remove(v)), bumped(x.bump(v, 1))), telling(2, 2, "false 2"))
		}
		x.pop()
		x.agree()
		x = x.copy()
	}
}

// P12.2 to P12.4: which variables there are: 1 to n, and no others, for each call.
func TestVariables(t *testing.T) {
	for n := range 6 {
		for _, v := range far(n) {
			x := full(t, make([]int64, n)...)
			x.like(fmt.Sprintf("%d of %d", v, n), telling(int(x.push(v)), int(x.remove(v)), bumped(x.bump(v, 1)), x.h.Has(v), x.h.Score(v), x.h.Size()), telling(2, 2, "false 2", false, 0, n))
			x.agree()
		}
		for v := 1; v <= n; v++ {
			x := newPair(t, n)
			x.like(fmt.Sprintf("%d of %d", v, n), telling(int(x.remove(v)), bumped(x.bump(v, 7)), x.h.Has(v), int(x.push(v)), x.h.Has(v), x.h.Score(v), x.h.Order(), int(x.remove(v)), x.h.Has(v), x.h.Score(v), x.h.Size()), telling(5, "false 0", false, 0, true, 7, []int{v}, 0, false, 7, 0))
			x.agree()
		}
	}
}

// P12.2: Push of one that is in it, wherever it stands, and again once it is not.
func TestTwice(t *testing.T) {
	x := full(t, 3, 9, 0, 9, 1)
	for v := 1; v <= 5; v++ {
		for range 2 {
			x.like(fmt.Sprint("Push ", v), int(x.push(v)), 6)
			x.agree()
		}
	}
	for v := 5; v > 0; v-- {
		x.like(fmt.Sprint("Remove, Push ", v), telling(int(x.remove(v)), int(x.push(v)), int(x.push(v))), telling(0, 0, 6))
		x.agree()
	}
	for range 5 {
		v, _ := x.pop()
		x.like("Push of what was popped", telling(int(x.push(v)), int(x.push(v)), int(x.remove(v))), telling(0, 6, 0))
		x.agree()
	}
}

// P12.2: Remove of one that is not in it: that never was, that was removed, that was popped.
func TestNone(t *testing.T) {
	x := newPair(t, 4)
	x.push(2)
	x.push(3)
	x.push(4)
	x.like("Remove", telling(int(x.remove(1)), int(x.remove(3)), int(x.remove(3)), x.h.Order()), telling(5, 0, 5, []int{2, 4}))
	x.agree()
	v, _ := x.pop()
	x.like("Pop, Remove", telling(v, int(x.remove(2)), int(x.remove(4)), int(x.remove(4))), telling(2, 5, 0, 5))
	x.agree()
}

// P12.2: Remove of each out of heaps of each size: what is left comes in order.
func TestRemove(t *testing.T) {
	for n := 1; n <= 12; n++ {
		scores := make([]int64, n)
		for i := range scores {
			scores[i] = int64(i * 7 % 11 % 4)
		}
		for v := 1; v <= n; v++ {
			x := full(t, scores...)
			x.like("Remove", telling(int(x.remove(v)), x.h.Has(v), x.h.Size()), telling(0, false, n-1))
			x.agree()
			for range n {
				x.pop()
				x.agree()
			}
		}
	}
}

// P12.2: Pop and Top of an empty heap: one into which nothing came, and one out of which all went.
func TestEmpty(t *testing.T) {
	x := with(t, 4, 5)
	empty := func() {
		t.Helper()
		for range 2 {
			x.like("empty", telling(found(x.h.Top()), found(x.pop()), x.h.Size(), len(x.h.Order())), telling("0 false", "0 false", 0, 0))
			x.agree()
		}
	}
	empty()
	x.push(1)
	x.pop()
	empty()
	x.push(2)
	x.push(1)
	x.remove(2)
	x.remove(1)
	empty()
	x.bump(1, Most)
	empty()
	x.push(1)
	x.like("Top", found(x.h.Top()), "1 true")
}

// P12.2: Top tells just what Pop does then, and stays; a score stays when its variable goes.
func TestPopTop(t *testing.T) {
	x := full(t, 1, 5, 3, 5, 0, 3)
	for _, want := range []int{2, 4, 3, 6, 1, 5} {
		for range 3 {
			x.like("Top", found(x.h.Top()), found(want, true))
		}
		x.agree()
		score := x.h.Score(want)
		x.like("Pop", telling(found(x.pop()), x.h.Has(want), x.h.Score(want)), telling(found(want, true), false, score))
		x.agree()
	}
	x.like("Top", found(x.h.Top()), "0 false")
	x.push(5)
	x.push(4)
	x.like("pushed again", telling(x.h.Order(), x.h.Score(4)), telling([]int{4, 5}, 5))
}

// P12.3: by how much: from 0 to Most, and nothing else, for one that is in it and for one that is not.
func TestBy(t *testing.T) {
	for _, in := range []bool{false, true} {
		for _, by := range []int64{math.MinInt64, math.MinInt64 + 1, -Most, -1 << 32, -2, -1, Most + 1, Most + 2, 2 * Most, math.MaxInt64 - 1, math.MaxInt64} {
			x := with(t, 0, 3, Most)
			if in {
				x.push(1)
				x.push(2)
				x.push(3)
			}
			for v := 1; v <= 3; v++ {
				x.like(fmt.Sprintf("Bump(%d, %d)", v, by), bumped(x.bump(v, by)), "false 2")
				x.agree()
			}
		}
		for _, by := range []int64{0, 1, 2, 1 << 30, 1 << 31, 1<<32 + 1, Most - 1, Most} {
			x := newPair(t, 2)
			if in {
				x.push(2)
				x.push(1)
			}
			x.like(fmt.Sprint("Bump by ", by), telling(bumped(x.bump(2, by)), x.h.Score(2), x.h.Score(1), x.h.Has(2)), telling("false 0", by, 0, in))
			x.agree()
		}
	}
}

// P12.3: ErrArg of a wrong variable and of a wrong number alike, and of both.
func TestBothWrong(t *testing.T) {
	x := full(t, 1, 2)
	for _, v := range []int{math.MinInt, -1, 0, 3, math.MaxInt} {
		for _, by := range []int64{math.MinInt64, -1, 0, Most, Most + 1, math.MaxInt64} {
			x.like(fmt.Sprintf("Bump(%d, %d)", v, by), bumped(x.bump(v, by)), "false 2")
		}
	}
	x.agree()
}

// P12.3: a score of just Most stays, however it came about; one above it is halved thirty times.
func TestToMost(t *testing.T) {
	for _, in := range []bool{false, true} {
		for _, first := range []int64{0, 1, 2, 1<<30 - 1, 1 << 30, Most / 2, Most - 1, Most} {
			x := with(t, first, 5)
			if in {
				x.push(1)
			}
			x.push(2)
			x.like("to Most", telling(bumped(x.bump(1, Most-first)), x.h.Score(1)), telling("false 0", int64(Most)))
			x.like("no more", telling(bumped(x.bump(1, 0)), x.h.Score(1)), telling("false 0", int64(Most)))
			x.like("another to Most", telling(bumped(x.bump(2, Most-5)), x.h.Score(2)), telling("false 0", int64(Most)))
			x.agree()
			x.like("one more", telling(bumped(x.bump(1, 1)), x.h.Score(1), x.h.Score(2), x.h.Has(1)), telling("true 0", 1<<30, 1<<30, in))
			x.agree()
		}
	}
	x := full(t, Most)
	x.like("as much again", telling(bumped(x.bump(1, Most)), x.h.Score(1)), telling("true 0", 1<<31))
	x.like("as much again", telling(bumped(x.bump(1, Most)), x.h.Score(1)), telling("true 0", 1<<30+2))
	x.like("one below", telling(bumped(x.bump(1, Most-1<<30-3)), x.h.Score(1)), telling("false 0", int64(Most-1)))
	x.agree()
}

// P12.3: all scores are halved, rounded down, of those in it and of those that are not; the one that was bumped in it or not.
func TestHalve(t *testing.T) {
	scores := []int64{Most, 0, 1, 2, 1<<29 + 1, 1<<30 - 1, 1 << 30, 1<<30 + 1, 1<<31 - 1, 1 << 31, 3<<30 + 17, 1<<59 + 1<<30 - 1, Most - 1, Most}
	want := []int64{1 << 30, 0, 0, 0, 0, 0, 1, 1, 1, 2, 3, 1 << 29, 1<<30 - 1, 1 << 30}
	for in := range 1 << len(scores) {
		if in%5 != 0 && in != 1<<len(scores)-1 {
			continue
		}
		x := newPair(t, len(scores))
		for i, s := range scores {
			x.bump(i+1, s)
			if in>>i&1 == 1 {
				x.push(i + 1)
			}
		}
		x.like("Bump", bumped(x.bump(1, 1<<30-1)), "true 0")
		for i := range scores {
			if x.h.Score(i+1) != want[i] || x.h.Has(i+1) != (in>>i&1 == 1) {
				t.Fatalf("%b: Score(%d): %d, want %d", in, i+1, x.h.Score(i+1), want[i])
			}
		}
		if got := popped(x.h); !slices.Equal(got, x.p.order()) {
			t.Fatalf("%b: %v, want %v", in, got, x.p.order())
		}
	}
}

// Scores that are alike: by their numbers, whatever the order in which they came in.
func TestAlike(t *testing.T) {
	for _, pushes := range [][]int{{1, 2, 3, 4, 5, 6, 7}, {7, 6, 5, 4, 3, 2, 1}, {4, 1, 7, 2, 6, 3, 5}, {2, 4, 6, 1, 3, 5, 7}} {
		x := newPair(t, 7)
		for _, v := range pushes {
			x.push(v)
			x.agree()
		}
		x.like("Order", telling(x.h.Order(), popped(x.h)), telling([]int{1, 2, 3, 4, 5, 6, 7}, []int{1, 2, 3, 4, 5, 6, 7}))
		for _, v := range []int{6, 3, 5} {
			x.bump(v, 4)
			x.agree()
		}
		x.like("Order", telling(x.h.Order(), popped(x.h)), telling([]int{3, 5, 6, 1, 2, 4, 7}, []int{3, 5, 6, 1, 2, 4, 7}))
		x.bump(4, 1)
		x.bump(4, 3)
		x.agree()
		x.like("Order", telling(x.h.Order(), popped(x.h)), telling([]int{3, 4, 5, 6, 1, 2, 7}, []int{3, 4, 5, 6, 1, 2, 7}))
	}
}

// Scores that are unlike, and alike once they are halved: by their numbers then, so that many change their places.
func TestAlikeHalved(t *testing.T) {
	x := full(t, 1, 2, 3, 4, 5, 6, 1<<30+1, 1<<30+2, 1<<31-1, Most)
	x.like("Order", x.h.Order(), []int{10, 9, 8, 7, 6, 5, 4, 3, 2, 1})
	x.like("Bump", bumped(x.bump(10, 1)), "true 0")
	x.agree()
	want := []int{10, 7, 8, 9, 1, 2, 3, 4, 5, 6}
	x.like("Order", telling(x.h.Order(), popped(x.h)), telling(want, want))
	x.bump(6, 1)
	x.agree()
	want = []int{10, 6, 7, 8, 9, 1, 2, 3, 4, 5}
	x.like("Order", telling(x.h.Order(), popped(x.h)), telling(want, want))
	// One that is not in it is bumped, and those in it change their places all the same.
	y := full(t, 1, 2, 3, Most)
	y.remove(4)
	y.like("Order", y.h.Order(), []int{3, 2, 1})
	y.like("Bump", bumped(y.bump(4, Most)), "true 0")
	y.agree()
	y.like("Order", telling(y.h.Order(), popped(y.h), found(y.h.Top())), telling([]int{1, 2, 3}, []int{1, 2, 3}, "1 true"))
}

// P12.3: what was bumped while it was not in it comes in with that score.
func TestBumpOutside(t *testing.T) {
	x := full(t, 4, 3, 2, 1)
	x.remove(4)
	x.bump(4, 5)
	x.agree()
	x.like("outside", telling(x.h.Has(4), x.h.Size(), x.h.Order()), telling(false, 3, []int{1, 2, 3}))
	x.push(4)
	x.agree()
	x.like("inside", x.h.Order(), []int{4, 1, 2, 3})
	x.pop()
	x.pop()
	x.bump(1, 0)
	x.bump(1, 100)
	x.agree()
	x.like("outside", telling(x.h.Order(), found(x.h.Top())), telling([]int{2, 3}, "2 true"))
}

// P12.4: Order, Size and Top behind each kind of call, those that answer an error or nothing included.
func TestOrder(t *testing.T) {
	x := with(t, 2, 0, 2, 7, 1)
	for i, y := range []struct {
		call func() string
		told string
		want []int
	}{
		{func() string { return found(x.pop()) }, "0 false", []int{}},
		{func() string { return fmt.Sprint(int(x.push(5))) }, "0", []int{5}},
		{func() string { return fmt.Sprint(int(x.push(3))) }, "0", []int{3, 5}},
		{func() string { return fmt.Sprint(int(x.push(2))) }, "0", []int{3, 5, 2}},
		{func() string { return fmt.Sprint(int(x.push(1))) }, "0", []int{1, 3, 5, 2}},
		{func() string { return fmt.Sprint(int(x.push(4))) }, "0", []int{4, 1, 3, 5, 2}},
		{func() string { return fmt.Sprint(int(x.push(4))) }, "6", []int{4, 1, 3, 5, 2}},
		{func() string { return fmt.Sprint(int(x.push(6))) }, "2", []int{4, 1, 3, 5, 2}},
		{func() string { return fmt.Sprint(int(x.remove(0))) }, "2", []int{4, 1, 3, 5, 2}},
		{func() string { return bumped(x.bump(2, 0)) }, "false 0", []int{4, 1, 3, 5, 2}},
		{func() string { return bumped(x.bump(2, 1)) }, "false 0", []int{4, 1, 3, 2, 5}},
		{func() string { return bumped(x.bump(2, 1)) }, "false 0", []int{4, 1, 2, 3, 5}},
		{func() string { return bumped(x.bump(2, 1)) }, "false 0", []int{4, 2, 1, 3, 5}},
		{func() string { return bumped(x.bump(2, -1)) }, "false 2", []int{4, 2, 1, 3, 5}},
		{func() string { return bumped(x.bump(0, 1)) }, "false 2", []int{4, 2, 1, 3, 5}},
		{func() string { return found(x.h.Top()) }, "4 true", []int{4, 2, 1, 3, 5}},
		{func() string { return found(x.pop()) }, "4 true", []int{2, 1, 3, 5}},
		{func() string { return fmt.Sprint(int(x.remove(4))) }, "5", []int{2, 1, 3, 5}},
		{func() string { return fmt.Sprint(int(x.remove(1))) }, "0", []int{2, 3, 5}},
		{func() string { return bumped(x.bump(5, Most-1)) }, "false 0", []int{5, 2, 3}},
		{func() string { return bumped(x.bump(3, 2)) }, "false 0", []int{5, 3, 2}},
		{func() string { return bumped(x.bump(5, 1)) }, "true 0", []int{5, 2, 3}},
		{func() string { return fmt.Sprint(int(x.push(4))) }, "0", []int{5, 2, 3, 4}},
		{func() string { return fmt.Sprint(x.h.Copy().Size()) }, "4", []int{5, 2, 3, 4}},
	} {
		got := y.call()
		x.agree()
		first := "0 false"
		if len(y.want) > 0 {
			first = found(y.want[0], true)
		}
		x.like(fmt.Sprint(i), telling(got, x.h.Order(), x.h.Size(), found(x.h.Top()), len(popped(x.h))), telling(y.told, y.want, len(y.want), first, len(y.want)))
	}
}

// P12.4: a copy is the same, of an empty heap, of one with some in it, and of one with all.
func TestCopy(t *testing.T) {
	for in := range 32 {
		x := with(t, 6, 6, 0, 8, 1<<40)
		for v := 1; v <= 5; v++ {
			if in>>(v-1)&1 == 1 {
				x.push(v)
			}
		}
		y := x.copy()
		x.agree()
		y.agree()
		if x.h == y.h {
			t.Fatal("the same one")
		}
		z := y.copy()
		for v := range 7 {
			z.push(v)
			z.agree()
			y.remove(v)
			y.agree()
			x.agree()
		}
	}
}

// P12.4: what is done to one of two is not seen in the other: each kind of call, of the first or of its copy.
func TestCopyApart(t *testing.T) {
	calls := []func(x *pair){
		func(x *pair) { x.push(6) },
		func(x *pair) { x.push(7) },
		func(x *pair) { x.pop() },
		func(x *pair) { x.remove(3) },
		func(x *pair) { x.remove(1) },
		func(x *pair) { x.bump(2, 50) },
		func(x *pair) { x.bump(7, 9) },
		func(x *pair) { x.bump(4, Most) },
		func(x *pair) {
			x.bump(4, Most)
			x.bump(4, Most)
		},
		func(x *pair) {
			for range 5 {
				x.pop()
			}
			x.push(5)
		},
	}
	for _, first := range calls {
		for _, second := range calls {
			x := full(t, 9, 1, 3<<31, 3, 1<<31, 3, 2)
			x.remove(6)
			x.remove(7)
			y := x.copy()
			first(x)
			y.agree()
			x.agree()
			second(y)
			x.agree()
			y.agree()
			first(y)
			second(x)
			x.agree()
			y.agree()
			x.like("popped", telling(popped(x.h), popped(y.h)), telling(x.p.order(), y.p.order()))
		}
	}
}
