package arena

import (
	"fmt"
	"math"
	"slices"
	"testing"

	"threshing/api"
)

const (
	leastLit    = math.MinInt32
	greatestLit = math.MaxInt32
)

// example is the arena that the chapter's examples begin with.
func example(t *testing.T) *pair {
	t.Helper()
	x := newPair(t, 100)
	r, e := x.put(7, lits(1, -2, 3), true, 2)
	s, f := x.put(8, lits(4, 5), false, 0)
	x.like("Put, Put", []any{r, int(e), s, int(f)}, []any{0, 0, 7, 0})
	x.agree()
	return x
}

// telling asks calls one behind the other, and tells what they answered.
func telling(calls ...any) string { return fmt.Sprint(calls...) }

func words(a *Arena) string {
	n, waste := a.Words()
	return fmt.Sprintf("%d %d", n, waste)
}

func number(e api.Errno) string { return fmt.Sprint(int(e)) }

func put(a *Arena, id int64, c api.Clause, red bool, lbd int) string {
	r, e := a.Put(id, c, red, lbd)
	return fmt.Sprintf("%d %d", r, int(e))
}

// The chapter's examples.
func TestExamples(t *testing.T) {
	a := New(100)
	for i, x := range []struct{ got, want string }{
		{put(a, 7, lits(1, -2, 3), true, 2), "0 0"},
		{put(a, 8, lits(4, 5), false, 0), "7 0"},
		{words(a), "13 0"},
		{number(a.Shrink(0, 2)), "0"},
		{words(a), "13 1"},
		{fmt.Sprint(a.Lits(0)), "[1 -2]"},
		{number(a.Kill(7)), "0"},
		{number(a.Kill(7)), "91"},
		{fmt.Sprint(a.Refs()), "[0]"},
		{words(a), "13 7"},
		{put(a, 9, lits(6), true, 1), "13 0"},
		{fmt.Sprint(a.Collect()), "[{0 0} {13 6}]"},
		{words(a), "11 0"},
		{put(a, 0, lits(1), true, 1), "0 2"},
		{put(a, 1, lits(0), true, 1), "0 4"},
		{put(a, 1, nil, true, 65536), "0 2"},
		{number(a.Swap(0, 0, 2)), "2"},
	} {
		if x.got != x.want {
			t.Errorf("%d: %s, want %s", i, x.got, x.want)
		}
	}
}

// The same calls beside the plain one, which must be right if it is to stand for the chapter.
func TestExamplesPlain(t *testing.T) {
	x := example(t)
	x.like("Shrink", int(x.shrink(0, 2)), 0)
	x.agree()
	x.like("Kill, Kill", []int{int(x.kill(7)), int(x.kill(7))}, "[0 91]")
	x.agree()
	r, _ := x.put(9, lits(6), true, 1)
	x.like("Put", r, 13)
	x.agree()
	x.like("Collect", x.collect(), "[{0 0} {13 6}]")
	x.agree()
	x.like("Swap", int(x.swap(0, 0, 2)), 2)
	x.like("row", x.p.row(), "[10 7 0 131072 1 4294967294 6 9 0 65536 6]")
	x.agree()
}

// P9.1: how many words the row may have: a limit below 0 counts as 0.
func TestLimit(t *testing.T) {
	for _, limit := range []int{math.MinInt, math.MinInt + 1, -1 << 32, -268435456, -4, -1, 0, 1, 2, 3} {
		x := newPair(t, limit)
		x.agree()
		_, e := x.put(1, nil, false, 0)
		x.like("Put", int(e), 90)
		x.like("Collect", x.collect(), "[]")
		x.agree()
	}
	for limit := 4; limit <= 40; limit++ {
		x := newPair(t, limit)
		if _, e := x.put(1, slices.Repeat(lits(3), limit-3), true, 1); e != api.ErrFull {
			t.Errorf("limit %d: one word more: %d", limit, e)
		}
		x.agree()
		if _, e := x.put(1, slices.Repeat(lits(3), limit-4), true, 1); e != api.OK {
			t.Errorf("limit %d: all words: %d", limit, e)
		}
		if _, e := x.put(2, nil, true, 1); e != api.ErrFull {
			t.Errorf("limit %d: full: %d", limit, e)
		}
		x.agree()
	}
}

// P9.1: a limit above MaxArena counts as that. (The row that is laid here is of noughts that nobody touches, so that it takes hardly any memory.)
func TestGreatLimit(t *testing.T) {
	row := make([]uint32, api.MaxArena)
	for _, limit := range []int{api.MaxArena - 1, api.MaxArena, api.MaxArena + 1, api.MaxArena + 4, api.MaxArena + 5, 1 << 31, 1 << 32, math.MaxInt - 4, math.MaxInt} {
		most := min(limit, 268435456)
		a := New(limit)
		a.words = row[: most-5 : most]
		if got := put(a, 1, lits(1, 2), false, 0); got != "0 90" {
			t.Errorf("limit %d: one word more: %s", limit, got)
		}
		if got, want := put(a, 1, lits(1), false, 0), fmt.Sprint(most-5, 0); got != want {
			t.Errorf("limit %d: all words: %s, want %s", limit, got, want)
		}
		if got := put(a, 1, nil, false, 0); got != "0 90" {
			t.Errorf("limit %d: full: %s", limit, got)
		}
		if n, _ := a.Words(); n != most {
			t.Errorf("limit %d: %d words, want %d", limit, n, most)
		}
		if l := a.Collect(); len(l) != 1 || int(l[0].From) != most-5 || l[0].To != 0 || a.ID(0) != 1 {
			t.Errorf("limit %d: %v", limit, l)
		}
	}
}

// P9.1: of a nil arena calls with an error answer ErrNil, whatever else is wrong; all else nothing and 0.
func TestNil(t *testing.T) {
	var a *Arena
	for _, id := range []int64{math.MinInt64, -1, 0, 1, api.MaxID, math.MaxInt64} {
		for _, c := range []api.Clause{nil, {}, {1}, {0}, {leastLit, 2}} {
			for _, lbd := range []int{-1, 0, 65535, 65536} {
				if got := put(a, id, c, true, lbd); got != "0 1" {
					t.Errorf("Put(%d, %v, true, %d): %s", id, c, lbd, got)
				}
			}
		}
	}
	for _, r := range []Ref{math.MinInt, -1, 0, 1, math.MaxInt} {
		for _, n := range []int{math.MinInt, -1, 0, 1, 65536, math.MaxInt} {
			errs := telling(int(a.Kill(r)), int(a.Shrink(r, n)), int(a.Swap(r, n, n)), int(a.Mark(r, n, n)))
			if errs != "1 1 1 1" {
				t.Errorf("%d, %d: %s", r, n, errs)
			}
			if l := a.Lit(r, n); l != 0 {
				t.Errorf("Lit(%d, %d): %d", r, n, l)
			}
		}
		lbd, used := a.LBD(r)
		if len(a.Lits(r)) != 0 || a.Len(r) != 0 || a.ID(r) != 0 || a.Red(r) || lbd != 0 || used != 0 {
			t.Errorf("%d: something is told of nothing", r)
		}
	}
	if len(a.Refs()) != 0 || words(a) != "0 0" || len(a.Collect()) != 0 {
		t.Error("something is told of nothing")
	}
}

// An arena that was not made by New has no limit, and so no room: no call of it panics.
func TestNotMade(t *testing.T) {
	a := &Arena{}
	got := telling(put(a, 1, nil, true, 0), put(a, 0, nil, true, 0), int(a.Kill(0)), int(a.Shrink(0, 0)), int(a.Swap(0, 0, 0)), int(a.Mark(0, 0, 0)), a.Lits(0), a.Len(0), a.Lit(0, 0), a.ID(0), a.Red(0), a.Refs(), words(a), a.Collect(), words(a), put(a, 1, nil, true, 0))
	if want := telling("0 90", "0 2", 91, 91, 91, 91, []int{}, 0, 0, 0, false, []int{}, "0 0", []int{}, "0 0", "0 90"); got != want {
		t.Errorf("%s, want %s", got, want)
	}
}

// P9.2: ids and LBDs at their bounds and one past them.
func TestPutBounds(t *testing.T) {
	wrongIDs := []int64{math.MinInt64, -api.MaxID, -1 << 32, -1, 0, api.MaxID + 1, math.MaxInt64}
	rightIDs := []int64{1, 2, 1<<31 - 1, 1 << 31, 1<<32 - 1, 1 << 32, 1<<32 + 1, 1 << 61, api.MaxID - 1, api.MaxID}
	wrongLBDs := []int{math.MinInt, -65536, -1, 65536, 65537, 1 << 32, math.MaxInt}
	rightLBDs := []int{0, 1, 255, 32767, 32768, 65534, 65535}
	x := newPair(t, 1000)
	for _, id := range wrongIDs {
		for _, lbd := range slices.Concat(wrongLBDs, rightLBDs) {
			_, e := x.put(id, lits(1), true, lbd)
			x.like(fmt.Sprint("Put ", id, lbd), int(e), 2)
		}
	}
	x.like("Words", words(x.a), "0 0")
	for _, id := range rightIDs {
		for _, lbd := range wrongLBDs {
			_, e := x.put(id, lits(1), false, lbd)
			x.like(fmt.Sprint("Put ", id, lbd), int(e), 2)
		}
		for _, lbd := range rightLBDs {
			r, e := x.put(id, lits(1, -2), lbd%2 == 0, lbd)
			x.like(fmt.Sprint("Put ", id, lbd), int(e), 0)
			got, used := x.a.LBD(r)
			x.like(fmt.Sprint("Put ", id, lbd), telling(x.a.ID(r), got, used, x.a.Red(r)), telling(id, lbd, 0, lbd%2 == 0))
		}
	}
	x.agree()
}

// P9.2: any literal but 0, wherever it stands; a clause without literals; one that has a literal twice, or with its negation. None of them is another one's.
func TestPutLits(t *testing.T) {
	x := newPair(t, 1000)
	for n := range 6 {
		for at := range n {
			c := slices.Repeat(lits(5), n)
			c[at] = 0
			_, e := x.put(1, c, true, 1)
			x.like(fmt.Sprint("Put ", c), int(e), 4)
		}
	}
	x.like("Words", words(x.a), "0 0")
	for _, c := range []api.Clause{nil, {}, {1}, {-1}, {leastLit}, {greatestLit}, {-greatestLit}, {leastLit + 1, leastLit, greatestLit}, {1, 1}, {1, -1}, {1, -1, 1, -1}, {7, 6, 5, 4, 3, 2, 1}} {
		for _, red := range []bool{false, true} {
			r, e := x.put(9, c, red, 3)
			x.like(fmt.Sprint("Put ", c), telling(int(e), x.a.Lits(r), x.a.Len(r), x.a.Red(r)), telling(0, c, len(c), red))
		}
	}
	x.agree()
}

// P9.2: the first of the errors that apply; and the place is 0 with any.
func TestPutOrder(t *testing.T) {
	x := newPair(t, 9)
	x.put(5, lits(1), true, 1)
	full := lits(1)
	for _, y := range []struct {
		id   int64
		c    api.Clause
		lbd  int
		want api.Errno
	}{
		{0, full, 1, api.ErrArg},
		{0, lits(0), 1, api.ErrArg},
		{api.MaxID + 1, lits(0), 65536, api.ErrArg},
		{1, lits(0), 65536, api.ErrArg},
		{1, full, -1, api.ErrArg},
		{1, lits(0), 1, api.ErrLit},
		{1, lits(1, 2, 3, 4, 5, 6, 7, 8, 9, 10, 0), 1, api.ErrLit},
		{1, make(api.Clause, 100000), 1, api.ErrLit},
		{1, full, 1, api.ErrFull},
		{1, make(api.Clause, 0), 0, api.OK},
		{1, nil, 0, api.ErrFull},
	} {
		r, e := x.put(y.id, y.c, false, y.lbd)
		if e != y.want || e != api.OK && r != 0 {
			t.Errorf("Put(%d, %d literals, false, %d): %d %d, want %d", y.id, len(y.c), y.lbd, r, e, y.want)
		}
		x.agree()
	}
}

// P9.2: a clause that is put has its place where the row ends, whatever was waste ahead of it; room comes by Collect alone.
func TestPutAtEnd(t *testing.T) {
	x := newPair(t, 20)
	x.put(1, lits(1, 2), true, 0)
	x.put(2, lits(3), true, 0)
	x.shrink(6, 0)
	x.kill(0)
	r, e := x.put(3, lits(4, 5), true, 0)
	x.like("Put", telling(r, int(e)), "11 0")
	_, e = x.put(4, nil, true, 0)
	x.like("Put", int(e), 90)
	x.kill(11)
	_, e = x.put(4, nil, true, 0)
	x.like("Put", int(e), 90)
	x.agree()
	x.like("Collect", x.collect(), "[{6 0}]")
	r, e = x.put(4, slices.Repeat(lits(8), 12), true, 0)
	x.like("Put", telling(r, int(e)), "4 0")
	x.agree()
}

// P9.3, P9.4: a Ref at which no clause begins that is not dead: below 0, amid a clause, in waste, of a dead one, at the row's end and past it.
func TestNoRef(t *testing.T) {
	x := newPair(t, 100)
	x.put(1, lits(1, 2, 3), false, 0)
	x.put(2, nil, false, 0)
	x.put(3, lits(4, 5, 6, 7, 8, 9), false, 0)
	x.put(4, lits(1), true, 7)
	x.shrink(11, 1)
	x.kill(0)
	x.agree()
	right := []Ref{7, 11, 21}
	x.like("Refs", x.a.Refs(), right)
	for _, r := range []Ref{math.MinInt, math.MinInt + 1, -1 << 32, -100, -5, -4, -3, -2, -1, 0, 1, 2, 3, 4, 5, 6, 8, 9, 10, 12, 13, 14, 15, 16, 17, 18, 19, 20, 22, 23, 24, 25, 26, 27, 99, 100, 101, 1<<32 + 7, 1 << 62, math.MaxInt - 3, math.MaxInt} {
		errs := telling(int(x.kill(r)), int(x.shrink(r, 0)), int(x.swap(r, 0, 0)), int(x.mark(r, 1, 1)))
		x.like(fmt.Sprint("at ", r), errs, "91 91 91 91")
		// An argument that is wrong too does not come first.
		errs = telling(int(x.shrink(r, -1)), int(x.swap(r, -1, 99)), int(x.mark(r, -1, 65536)))
		x.like(fmt.Sprint("at ", r), errs, "91 91 91")
		x.agreeAt(r)
	}
	x.agree()
	// A Ref that was one ahead of Collect, and is none behind it.
	x.collect()
	x.like("Kill", telling(int(x.kill(7)), int(x.kill(21)), int(x.kill(11))), "91 91 91")
	x.agree()
}

// P9.3: what was killed is dead: nothing is told of it, and nothing can be done to it, not even killing; all others are as they were.
func TestKill(t *testing.T) {
	for _, order := range [][]int{{0, 1, 2}, {0, 2, 1}, {1, 0, 2}, {1, 2, 0}, {2, 0, 1}, {2, 1, 0}} {
		x := newPair(t, 100)
		var refs []Ref
		for i, c := range []api.Clause{{1, 2, 3}, nil, {-4}} {
			r, _ := x.put(int64(i+1), c, i%2 == 0, i)
			refs = append(refs, r)
		}
		for _, i := range order {
			x.like("Kill", int(x.kill(refs[i])), 0)
			x.agree()
			errs := telling(int(x.kill(refs[i])), int(x.shrink(refs[i], 0)), int(x.swap(refs[i], 0, 0)), int(x.mark(refs[i], 0, 0)))
			x.like("dead", errs, "91 91 91 91")
			x.agree()
		}
		x.like("Words", words(x.a), "16 16")
	}
}

// P9.3: Shrink to all, to some, to none and past these; more than once.
func TestShrink(t *testing.T) {
	for n := range 6 {
		for to := -2; to <= n+2; to++ {
			x := newPair(t, 100)
			x.put(1, lits(9, 9), false, 1)
			r, _ := x.put(2, lits(1, -2, 3, -4, 5)[:n], true, 2)
			x.put(3, lits(8), false, 3)
			want := api.OK
			if to < 0 || to > n {
				want = api.ErrArg
			}
			x.like(fmt.Sprintf("%d to %d", n, to), int(x.shrink(r, to)), int(want))
			x.agree()
			if want == api.OK {
				x.like("Words", words(x.a), telling(15+n, n-to))
			}
		}
	}
	x := newPair(t, 100)
	r, _ := x.put(1, lits(1, 2, 3, 4, 5, 6), true, 2)
	for i, y := range []struct {
		n    int
		want api.Errno
		told string
	}{{7, 2, "10 0"}, {6, 0, "10 0"}, {5, 0, "10 1"}, {6, 2, "10 1"}, {2, 0, "10 4"}, {3, 2, "10 4"}, {2, 0, "10 4"}, {math.MaxInt, 2, "10 4"}, {math.MinInt, 2, "10 4"}, {0, 0, "10 6"}, {1, 2, "10 6"}, {0, 0, "10 6"}} {
		x.like(fmt.Sprint("Shrink ", i), telling(int(x.shrink(r, y.n)), words(x.a)), telling(int(y.want), y.told))
		x.agree()
	}
	x.like("Collect", x.collect(), "[{0 0}]")
	x.like("Words", words(x.a), "4 0")
	x.agree()
}

// P9.3: Swap of all places there are, of one with itself, and of places that are none, also of those that were some ahead of Shrink.
func TestSwap(t *testing.T) {
	for n := range 5 {
		for i := -2; i <= n+2; i++ {
			for k := -2; k <= n+2; k++ {
				x := newPair(t, 100)
				x.put(1, lits(9, 9), false, 1)
				r, _ := x.put(2, lits(1, -2, 3, -4)[:n], true, 2)
				x.put(3, lits(8, 7), false, 3)
				want := api.ErrArg
				if i >= 0 && k >= 0 && i < n && k < n {
					want = api.OK
				}
				x.like(fmt.Sprintf("%d: %d %d", n, i, k), int(x.swap(r, i, k)), int(want))
				x.agree()
			}
		}
	}
	x := newPair(t, 100)
	r, _ := x.put(1, lits(leastLit, 2, greatestLit), true, 2)
	x.like("Swap", telling(int(x.swap(r, 0, 2)), x.a.Lits(r)), telling(0, lits(greatestLit, 2, leastLit)))
	x.like("Swap", telling(int(x.swap(r, 1, 1)), x.a.Lits(r)), telling(0, lits(greatestLit, 2, leastLit)))
	x.shrink(r, 2)
	x.like("Swap", telling(int(x.swap(r, 0, 2)), int(x.swap(r, 2, 0)), int(x.swap(r, 2, 2)), int(x.swap(r, math.MaxInt, 0)), int(x.swap(r, 0, math.MinInt))), "2 2 2 2 2")
	x.like("Swap", telling(int(x.swap(r, 1, 0)), x.a.Lits(r)), telling(0, lits(2, greatestLit)))
	x.agree()
}

// P9.3: Mark at the bounds and one past them; neither number gets into the other, or into what stands beside them.
func TestMark(t *testing.T) {
	all := []int{math.MinInt, -65536, -1, 0, 1, 2, 255, 256, 32767, 32768, 65534, 65535, 65536, 65537, 1 << 32, 1 << 48, math.MaxInt}
	x := newPair(t, 100)
	x.put(1, lits(9), false, 65535)
	r, _ := x.put(api.MaxID, lits(leastLit, 3), true, 2)
	x.put(3, lits(8), false, 0)
	for _, lbd := range all {
		for _, used := range all {
			x.mark(r, 77, 78)
			want, told := api.OK, telling(lbd, used)
			if lbd < 0 || lbd > 65535 || used < 0 || used > 65535 {
				want, told = api.ErrArg, "77 78"
			}
			x.like(fmt.Sprint("Mark ", lbd, used), int(x.mark(r, lbd, used)), int(want))
			a, b := x.a.LBD(r)
			x.like(fmt.Sprint("LBD ", lbd, used), telling(a, b), told)
			x.agree()
		}
	}
}

// P9.4: places at which there is no literal.
func TestLit(t *testing.T) {
	x := newPair(t, 100)
	x.put(1, lits(5, 6), false, 0)
	x.put(2, lits(7, 8, 9), false, 0)
	x.shrink(0, 1)
	for _, i := range []int{math.MinInt, -1 << 32, -5, -4, -1, 1, 2, 3, 4, 5, 6, 7, 1 << 32, 1 << 62, math.MaxInt - 4, math.MaxInt} {
		if l := x.a.Lit(0, i); l != 0 {
			t.Errorf("Lit(0, %d): %d", i, l)
		}
	}
	x.like("Lit", telling(x.a.Lit(0, 0), x.a.Lit(6, 0), x.a.Lit(6, 1), x.a.Lit(6, 2), x.a.Lit(6, 3)), "5 7 8 9 0")
}

// P9.5: Words and Refs while a clause is made shorter, twice, killed, and collected.
func TestWordsRefs(t *testing.T) {
	x := newPair(t, 100)
	tell := func() string { x.agree(); return fmt.Sprint(words(x.a), x.a.Refs()) }
	x.like("none", tell(), "0 0[]")
	x.put(1, lits(1, 2, 3, 4), false, 0)
	x.like("one", tell(), "8 0[0]")
	x.put(2, lits(5), false, 0)
	x.like("two", tell(), "13 0[0 8]")
	x.shrink(0, 3)
	x.like("shorter", tell(), "13 1[0 8]")
	x.shrink(0, 1)
	x.like("shorter again", tell(), "13 3[0 8]")
	x.kill(0)
	x.like("dead", tell(), "13 8[8]")
	x.put(3, nil, true, 0)
	x.like("three", tell(), "17 8[8 13]")
	x.collect()
	x.like("collected", tell(), "9 0[0 5]")
	x.shrink(0, 0)
	x.like("shorter behind it", tell(), "9 1[0 5]")
	x.kill(5)
	x.like("dead behind it", tell(), "9 5[0]")
	x.collect()
	x.like("collected again", tell(), "4 0[0]")
	x.kill(0)
	x.like("all dead", tell(), "4 4[]")
	x.collect()
	x.like("nothing left", tell(), "0 0[]")
}

// P9.6: Collect without waste, of nothing, with nothing left, and twice.
func TestCollect(t *testing.T) {
	x := newPair(t, 100)
	x.like("of nothing", x.collect(), "[]")
	x.agree()
	x.put(1, lits(1, 2), true, 3)
	x.put(2, nil, false, 4)
	x.put(3, lits(-3), true, 5)
	x.mark(6, 9, 10)
	x.like("without waste", x.collect(), "[{0 0} {6 6} {10 10}]")
	x.agree()
	x.kill(0)
	x.like("the first is dead", x.collect(), "[{6 0} {10 4}]")
	x.agree()
	x.like("twice", x.collect(), "[{0 0} {4 4}]")
	x.agree()
	x.kill(4)
	x.like("the last is dead", x.collect(), "[{0 0}]")
	x.agree()
	x.kill(0)
	x.like("nothing left", x.collect(), "[]")
	x.like("nothing left, twice", x.collect(), "[]")
	x.like("Words", words(x.a), "0 0")
	r, e := x.put(4, lits(7), true, 1)
	x.like("behind it", telling(r, int(e)), "0 0")
	x.agree()
}

// P9.6: all of a clause as it was, by however little or much it moves, over its own words too.
func TestCollectMoves(t *testing.T) {
	for ahead := range 12 {
		for n := range 12 {
			x := newPair(t, 100)
			x.put(1, slices.Repeat(lits(6), ahead), false, 1)
			c := make(api.Clause, n)
			for i := range c {
				c[i] = api.Lit(i+1) * api.Lit(1-i%2*2)
			}
			r, _ := x.put(api.MaxID-5, c, true, 65535)
			x.mark(r, 1234, 65535)
			s, _ := x.put(3, slices.Repeat(lits(leastLit), 3), false, 2)
			x.shrink(0, ahead/2)
			x.shrink(s, 2)
			x.agree()
			x.collect()
			x.agree()
			x.kill(0)
			x.collect()
			x.agree()
			x.like("told", telling(x.a.ID(0), x.a.Lits(0)), telling(int64(api.MaxID-5), c))
		}
	}
}
