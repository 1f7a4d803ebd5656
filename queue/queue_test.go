package queue

import (
	"fmt"
	"math"
	"slices"
	"testing"

	"threshing/api"
)

// The chapter's examples.
func TestExamples(t *testing.T) {
	q, e := New(5)
	for i, y := range []struct{ got, want string }{
		{fmt.Sprint(int(e)), "0"},
		{found(q.Next(nil)), "5 true"},
		{found(q.Next([]bool{false, false, false, false, true})), "4 true"},
		{fmt.Sprint(int(q.Bump(2, 4)), q.Order()), "0 [1 3 5 2 4]"},
		{fmt.Sprint(int(q.Bump(4, 2, 4, 1)), q.Order()), "0 [3 5 1 2 4]"},
		{fmt.Sprint(q.Stamp(4), q.Stamp(5), q.Stamp(6)), "7 5 0"},
		{fmt.Sprint(int(q.Bump(6)), int(q.Bump())), "2 0"},
		{found(q.Next([]bool{true, true, true, true, true})), "0 false"},
	} {
		if y.got != y.want {
			t.Errorf("%d: %s, want %s", i, y.got, y.want)
		}
	}
}

// The same calls beside the plain one, which must be right if it is to stand for the chapter.
func TestExamplesPlain(t *testing.T) {
	x := newPair(t, 5)
	x.like("Next", telling(found(x.next()), found(x.next(false, false, false, false, true))), telling("5 true", "4 true"))
	x.agree()
	x.like("Bump", telling(int(x.bump(2, 4)), x.p.row), telling(0, []int{1, 3, 5, 2, 4}))
	x.agree()
	x.like("Bump", telling(int(x.bump(4, 2, 4, 1)), x.p.row), telling(0, []int{3, 5, 1, 2, 4}))
	x.agree()
	x.like("stamps", telling(x.p.stamp(4), x.p.stamp(5), x.p.stamp(6), x.p.stamps), telling(7, 5, 0, []int64{0, 7, 7, 3, 7, 5}))
	x.like("Bump", telling(int(x.bump(6)), int(x.bump()), found(x.next(true, true, true, true, true))), telling(2, 0, "0 false"))
	x.agree()
}

// P13.1: how many variables there may be, and what a new queue is.
func TestNew(t *testing.T) {
	for _, n := range []int{math.MinInt, math.MinInt + 1, -1 << 32, -1<<32 + 4, -api.MaxVar, -2, -1, 1048577, 1048578, 1 << 31, 1 << 32, 1<<32 + 4, 1 << 62, math.MaxInt} {
		if q, e := New(n); q != nil || e != api.ErrArg {
			t.Errorf("New(%d): %v %d", n, q, e)
		}
	}
	for _, n := range []int{0, 1, 2, 3, 100} {
		x := newPair(t, n)
		x.agree()
		x.next()
		x.agree()
		for i, v := range x.q.Order() {
			if v != i+1 || x.q.Stamp(v) != int64(v) {
				t.Errorf("New(%d): %d at %d, of the stamp %d", n, v, i, x.q.Stamp(v))
			}
		}
	}
}

// P13.1: just as many as there may be, and one fewer.
func TestNewGreat(t *testing.T) {
	for _, n := range []int{1048575, 1048576} {
		q, e := New(n)
		if e != api.OK || q.Size() != n || len(q.Order()) != n {
			t.Fatalf("New(%d): %d", n, e)
		}
		got := telling(found(q.Next(nil)), q.Stamp(n), q.Stamp(n+1), int(q.Bump(n+1)), int(q.Bump(1)), q.Stamp(1), q.Stamp(n), found(q.Next(nil)), found(q.Next([]bool{true})), int(q.Bump(n, 2)), q.Order()[n-3:], q.Stamp(n), q.Stamp(2))
		if got != telling(found(n, true), n, 0, 2, 0, n+1, n, "1 true", found(n, true), 0, []int{1, 2, n}, n+2, n+2) {
			t.Errorf("New(%d): %s", n, got)
		}
	}
}

// P13.1: a queue of no variables has none, whatever is called.
func TestNoVariables(t *testing.T) {
	x := newPair(t, 0)
	for _, v := range append(far(0), 1) {
		x.like(fmt.Sprint(v), telling(int(x.bump(v)), int(x.bump(v, v)), int(x.bump()), x.q.Stamp(v)), telling(2, 2, 0, 0))
		x.agree()
		x.copy().agree()
	}
	for _, set := range [][]bool{nil, {}, {false}, {true}, {true, false}} {
		x.like("Next", found(x.next(set...)), "0 false")
		x.agree()
	}
	if x.q.Copy() == x.q {
		t.Error("the same one")
	}
}

// P13.1: of a nil queue Bump answers ErrNil, whatever else is wrong; all else nothing.
func TestNil(t *testing.T) {
	var q *Queue
	for _, v := range append(far(3), 1, 2, 3, api.MaxVar) {
		if got := telling(int(q.Bump(v)), int(q.Bump(v, v)), int(q.Bump(1, v)), q.Stamp(v)); got != telling(1, 1, 1, 0) {
			t.Errorf("%d: %s", v, got)
		}
	}
	for _, set := range [][]bool{nil, {}, {false}, {true}, {false, false, false}} {
		if got := found(q.Next(set)); got != "0 false" {
			t.Errorf("Next %v: %s", set, got)
		}
	}
	if got := telling(int(q.Bump()), len(q.Order()), q.Size(), q.Copy() == nil); got != telling(1, 0, 0, true) {
		t.Error(got)
	}
}

// A queue that was not made by New has no variables: no call of it panics.
func TestNotMade(t *testing.T) {
	x := &pair{t, &Queue{}, newPlain(0)}
	for range 2 {
		for _, v := range []int{-1, 0, 1} {
			x.like("wrong", telling(int(x.bump(v)), int(x.bump(1, v))), telling(2, 2))
		}
		x.like("none", telling(int(x.bump()), found(x.next()), found(x.next(false, true))), telling(0, "0 false", "0 false"))
		x.agree()
		x = x.copy()
	}
}

// P13.2, P13.4: which variables there are: 1 to n, and no others; alone, and among right ones, wherever it stands there.
func TestVariables(t *testing.T) {
	for n := range 6 {
		for _, v := range far(n) {
			x := with(t, n)
			x.like(fmt.Sprintf("%d of %d", v, n), telling(int(x.bump(v)), x.q.Stamp(v)), telling(2, 0))
			x.agree()
			all := x.q.Order()
			for at := range n + 1 {
				x.like(fmt.Sprintf("%d at %d of %d", v, at, n), int(x.bump(slices.Insert(slices.Clone(all), at, v)...)), 2)
				x.agree()
			}
		}
		for v := 1; v <= n; v++ {
			x := with(t, n)
			x.like(fmt.Sprintf("%d of %d", v, n), telling(x.q.Stamp(v), int(x.bump(v)), x.q.Stamp(v), found(x.next())), telling(v, 0, n+1, found(v, true)))
			x.agree()
		}
	}
}

// P13.2: Bump of none: nothing happens, and the call is not counted.
func TestBumpNone(t *testing.T) {
	for n := range 4 {
		x := with(t, n)
		for range 3 {
			x.like("Bump", telling(int(x.bump()), int(x.bump([]int{}...)), int(x.bump([]int(nil)...))), telling(0, 0, 0))
			x.agree()
		}
		if n > 0 {
			x.bump(1)
			x.like("counted", x.q.Stamp(1), n+1)
			x.bump()
			x.bump(n)
			x.like("counted", x.q.Stamp(n), n+2)
			x.agree()
		}
	}
}

// P13.2: Bump of one: at the head, in the midst, at the end, and that again.
func TestBumpOne(t *testing.T) {
	for _, y := range []struct {
		v    int
		want []int
	}{
		{4, []int{2, 1, 5, 3, 4}},
		{2, []int{4, 1, 5, 3, 2}},
		{1, []int{4, 2, 5, 3, 1}},
		{5, []int{4, 2, 1, 3, 5}},
		{3, []int{4, 2, 1, 5, 3}},
	} {
		x := with(t, 5, []int{1}, []int{5}, []int{3})
		x.bump(2)
		x.bump(1)
		x.bump(5)
		x.bump(3)
		x.like("row", x.q.Order(), []int{4, 2, 1, 5, 3})
		for k := range int64(3) {
			x.like(fmt.Sprint("Bump ", y.v), telling(int(x.bump(y.v)), x.q.Order(), x.q.Stamp(y.v)), telling(0, y.want, 5+8+k))
			x.agree()
		}
	}
}

// P13.2: Bump of all, in any order, moves none from its place; but it is a call that moved.
func TestBumpAll(t *testing.T) {
	for _, l := range orders(4) {
		x := with(t, 4, []int{3}, []int{1})
		x.like("row", x.q.Order(), []int{2, 4, 3, 1})
		for k := range int64(3) {
			x.like(fmt.Sprint("Bump ", l), telling(int(x.bump(l...)), x.q.Order()), telling(0, []int{2, 4, 3, 1}))
			for v := 1; v <= 4; v++ {
				x.like("Stamp", x.q.Stamp(v), 4+3+k)
			}
			x.agree()
		}
	}
}

// P13.2: some, in any order and twice and more, out of any row: those that stay first, both as they stood.
func TestBumpSome(t *testing.T) {
	for _, row := range orders(5) {
		start := newPair(t, 5)
		for _, v := range row {
			start.bump(v)
		}
		start.like("row", start.q.Order(), row)
		for in := range 32 {
			var l []int
			for v := 1; v <= 5; v++ {
				if in>>(v-1)&1 == 1 {
					l = append(l, v)
				}
			}
			twice := append(slices.Clone(l), l...)
			back := slices.Clone(l)
			slices.Reverse(back)
			x, y, z := start.copy(), start.copy(), start.copy()
			x.bump(l...)
			y.bump(twice...)
			z.bump(append(back, twice...)...)
			x.agree()
			y.agree()
			z.agree()
			x.like("the same", telling(y.q.Order(), z.q.Order(), z.q.Stamp(1)), telling(x.q.Order(), x.q.Order(), x.q.Stamp(1)))
		}
	}
}

// P13.2: one that is there twice and more counts once, alone and among others; the call counts once too.
func TestBumpTwice(t *testing.T) {
	x := with(t, 4)
	x.like("twice", telling(int(x.bump(2, 2)), x.q.Order(), x.q.Stamp(2)), telling(0, []int{1, 3, 4, 2}, 5))
	x.agree()
	x.like("thrice", telling(int(x.bump(1, 1, 1)), x.q.Order(), x.q.Stamp(1)), telling(0, []int{3, 4, 2, 1}, 6))
	x.agree()
	x.like("among", telling(int(x.bump(1, 3, 4, 3, 1, 3)), x.q.Order(), x.q.Stamp(3)), telling(0, []int{2, 3, 4, 1}, 7))
	x.agree()
	x.like("wrong ones twice", telling(int(x.bump(1, 5, 5, 1)), int(x.bump(0, 0)), x.q.Order()), telling(2, 2, []int{2, 3, 4, 1}))
	x.agree()
}

// orders is all orders of 1 to n.
func orders(n int) [][]int {
	all := [][]int{{}}
	for v := 1; v <= n; v++ {
		var longer [][]int
		for _, order := range all {
			for at := range len(order) + 1 {
				longer = append(longer, slices.Insert(slices.Clone(order), at, v))
			}
		}
		all = longer
	}
	return all
}

// P13.3: no set, and one that is shorter, as long and longer; none true, all true, and all but one.
func TestNext(t *testing.T) {
	x := with(t, 5, []int{2}, []int{4, 1})
	x.like("row", x.q.Order(), []int{3, 5, 2, 1, 4})
	for i, y := range []struct {
		set  []bool
		want string
	}{
		{nil, "4 true"},
		{[]bool{}, "4 true"},
		{[]bool{false}, "4 true"},
		{[]bool{true}, "4 true"},
		{[]bool{true, true, true}, "4 true"},
		{[]bool{true, true, true, true}, "5 true"},
		{[]bool{false, false, false, true}, "1 true"},
		{[]bool{true, false, false, true}, "2 true"},
		{make([]bool, 5), "4 true"},
		{make([]bool, 6), "4 true"},
		{make([]bool, 500), "4 true"},
		{allBut(5), "0 false"},
		{allBut(6), "0 false"},
		{allBut(500), "0 false"},
		{allBut(5, 1), "1 true"},
		{allBut(5, 2), "2 true"},
		{allBut(5, 3), "3 true"},
		{allBut(5, 4), "4 true"},
		{allBut(5, 5), "5 true"},
		{allBut(6, 6), "0 false"},
		{allBut(7, 3, 6), "3 true"},
		{allBut(9, 6, 7, 8, 9), "0 false"},
		{just(5, 4), "1 true"},
		{just(5, 4, 1), "2 true"},
		{just(5, 4, 1, 2), "5 true"},
		{just(5, 4, 1, 2, 5), "3 true"},
		{just(5, 3), "4 true"},
	} {
		x.like(fmt.Sprint(i, ": alone"), found(x.copy().next(y.set...)), y.want)
		x.like(fmt.Sprint(i, ": behind the others"), found(x.next(y.set...)), y.want)
	}
	x.agree()
}

// P13.3: what lies behind a set's length is not looked at.
func TestNextLength(t *testing.T) {
	x := with(t, 4)
	set := allBut(6)
	for n, want := range []string{"4 true", "4 true", "4 true", "4 true", "0 false", "0 false", "0 false"} {
		x.like(fmt.Sprint("Next of ", n), found(x.next(set[:n]...)), want)
	}
}

// P13.3, P13.6: every set behind every set, of rows that were moved between or not.
func TestNextAgain(t *testing.T) {
	sets := [][]bool{nil}
	for n := 1; n <= 5; n++ {
		for in := range 1 << n {
			var set []bool
			for i := range n {
				set = append(set, in>>i&1 == 1)
			}
			sets = append(sets, set)
		}
	}
	for _, moved := range [][][]int{{}, {{1}}, {{4, 2}, {3}}} {
		for _, between := range [][]int{nil, {1}, {3}, {4}, {2, 4}, {1, 3, 4}, {1, 2, 3, 4}} {
			for _, first := range sets {
				for _, second := range sets {
					x := with4(t, moved)
					x.next(first...)
					x.bump(between...)
					x.next(second...)
					x.next(first...)
				}
			}
		}
	}
}

// with4 is with, of four variables, but holds nothing against anything: it is called often.
func with4(t *testing.T, calls [][]int) *pair {
	x := newPair(t, 4)
	for _, l := range calls {
		x.bump(l...)
	}
	return x
}

// P13.3: more and more true, and fewer and fewer, from either end of the row and from its midst.
func TestNextMoreFewer(t *testing.T) {
	x := with(t, 6, []int{3, 1}, []int{6})
	row := x.q.Order()
	x.like("row", row, []int{2, 4, 5, 1, 3, 6})
	back := slices.Clone(row)
	slices.Reverse(back)
	for _, way := range [][]int{row, back, {5, 1, 4, 3, 2, 6}, {1, 5, 3, 4, 6, 2}} {
		set := make([]bool, 6)
		for range 2 {
			for _, v := range way {
				set[v-1] = !set[v-1]
				for range 2 {
					x.next(set...)
				}
			}
		}
		x.agree()
	}
	x.like("emptied", emptied(x.q), back)
}

// The place at which was looked last is kept, in a copy too; a move takes it along with its variable.
func TestKept(t *testing.T) {
	x := with(t, 4, []int{2})
	for i, y := range []struct {
		set  []bool
		want int
	}{{nil, 2}, {just(4, 2), 4}, {allBut(4, 1), 1}, {allBut(4, 1, 3), 3}, {allBut(4), 0}, {just(4, 2), 4}} {
		x.next(y.set...)
		x.bump(i%4 + 1)
		x.bump(4)
		x.bump(2)
		x.like(fmt.Sprint(i), telling(x.q.looked, x.q.Copy().looked), telling(y.want, y.want))
	}
}

// P13.3: Next behind each kind of call, those that answer an error and those that move nothing included.
func TestNextBehind(t *testing.T) {
	for i, y := range []struct {
		call func(x *pair)
		want string // with none set; with the last one set; with all set but 2
	}{
		{func(x *pair) {}, "4 true 1 true 2 true"},
		{func(x *pair) { x.bump() }, "4 true 1 true 2 true"},
		{func(x *pair) { x.bump(5) }, "4 true 1 true 2 true"},
		{func(x *pair) { x.bump(2, 0) }, "4 true 1 true 2 true"},
		{func(x *pair) { x.bump(4) }, "4 true 1 true 2 true"},
		{func(x *pair) { x.bump(1) }, "1 true 4 true 2 true"},
		{func(x *pair) { x.bump(2) }, "2 true 4 true 2 true"},
		{func(x *pair) { x.bump(3, 2) }, "3 true 2 true 2 true"},
		{func(x *pair) { x.bump(1, 2, 3, 4) }, "4 true 1 true 2 true"},
		{func(x *pair) { x.q.Stamp(2) }, "4 true 1 true 2 true"},
		{func(x *pair) { x.q.Order() }, "4 true 1 true 2 true"},
		{func(x *pair) { x.q.Size() }, "4 true 1 true 2 true"},
		{func(x *pair) { x.q.Copy().Bump(3) }, "4 true 1 true 2 true"},
		{func(x *pair) { *x = *x.copy() }, "4 true 1 true 2 true"},
		{func(x *pair) { x.next(allBut(4)...) }, "4 true 1 true 2 true"},
		{func(x *pair) { x.next(allBut(4, 3)...) }, "4 true 1 true 2 true"},
	} {
		for _, first := range [][]bool{nil, allBut(4), allBut(4, 1), allBut(4, 2), allBut(4, 3), allBut(4, 4), just(4, 4)} {
			x := with(t, 4, []int{1, 4})
			x.like("row", x.q.Order(), []int{2, 3, 1, 4})
			x.next(first...)
			y.call(x)
			last, ok := x.next()
			x.like(fmt.Sprint(i), fmt.Sprint(found(last, ok), " ", found(x.next(just(4, last)...)), " ", found(x.next(allBut(4, 2)...))), y.want)
			x.agree()
		}
	}
}

// P13.4: stamps, of those that were moved and of those that were not, behind each kind of call.
func TestStamp(t *testing.T) {
	x := with(t, 4)
	for i, y := range []struct {
		l    []int
		e    int
		want []int64
	}{
		{nil, 0, []int64{1, 2, 3, 4}},
		{[]int{0}, 2, []int64{1, 2, 3, 4}},
		{[]int{4}, 0, []int64{1, 2, 3, 5}},
		{[]int{1, 2}, 0, []int64{6, 6, 3, 5}},
		{nil, 0, []int64{6, 6, 3, 5}},
		{[]int{2, 5}, 2, []int64{6, 6, 3, 5}},
		{[]int{-1, 2}, 2, []int64{6, 6, 3, 5}},
		{[]int{2, 2}, 0, []int64{6, 7, 3, 5}},
		{[]int{2}, 0, []int64{6, 8, 3, 5}},
		{[]int{4, 3, 2, 1}, 0, []int64{9, 9, 9, 9}},
		{[]int{3}, 0, []int64{9, 9, 10, 9}},
		{[]int{1}, 0, []int64{11, 9, 10, 9}},
	} {
		e := x.bump(y.l...)
		for range 2 {
			x.like(fmt.Sprint(i), telling(int(e), x.q.Stamp(1), x.q.Stamp(2), x.q.Stamp(3), x.q.Stamp(4)), telling(y.e, y.want[0], y.want[1], y.want[2], y.want[3]))
			x.next(true, i%2 == 0)
		}
		x.like("none of its variables", telling(x.q.Stamp(0), x.q.Stamp(-1), x.q.Stamp(-4), x.q.Stamp(5), x.q.Stamp(math.MinInt), x.q.Stamp(math.MaxInt)), telling(0, 0, 0, 0, 0, 0))
		x.agree()
	}
}

// P13.4: a copy is the same, and counts on as the first one does.
func TestCopy(t *testing.T) {
	for _, calls := range [][][]int{{}, {{1}}, {{5, 2}, {3, 1}}, {{1, 2, 3, 4, 5}}} {
		for _, set := range [][]bool{nil, allBut(5), allBut(5, 1), allBut(5, 3)} {
			x := with(t, 5, calls...)
			x.next(set...)
			y := x.copy()
			x.agree()
			y.agree()
			if x.q == y.q {
				t.Fatal("the same one")
			}
			y.next(set...)
			y.next()
			x.next(set...)
			z := y.copy()
			for v := range 7 {
				z.bump(v)
				z.agree()
				y.bump(v, 1)
				y.agree()
				x.agree()
			}
			z.next(set...)
			z.agree()
		}
	}
}

// P13.4: what is done to one of two is not seen in the other: each kind of call, of the first or of its copy.
func TestCopyApart(t *testing.T) {
	calls := []func(x *pair){
		func(x *pair) { x.bump() },
		func(x *pair) { x.bump(8) },
		func(x *pair) { x.bump(1) },
		func(x *pair) { x.bump(7) },
		func(x *pair) { x.bump(4, 2, 6) },
		func(x *pair) { x.bump(7, 6, 5, 4, 3, 2, 1) },
		func(x *pair) { x.next() },
		func(x *pair) { x.next(allBut(7)...) },
		func(x *pair) { x.next(allBut(7, 2)...) },
		func(x *pair) { x.next(allBut(7, 3, 6)...) },
		func(x *pair) {
			for v := 1; v <= 7; v++ {
				x.bump(v, 8-v)
			}
		},
	}
	for _, first := range calls {
		for _, second := range calls {
			x := with(t, 7, []int{3, 5}, []int{1})
			y := x.copy()
			first(x)
			y.agree()
			x.agree()
			second(y)
			x.agree()
			y.agree()
			first(y)
			second(x)
			x.agree()
			y.agree()
			row, other := x.q.Order(), y.q.Order()
			slices.Reverse(row)
			slices.Reverse(other)
			x.like("emptied", telling(emptied(x.q), emptied(y.q)), telling(row, other))
		}
	}
}
