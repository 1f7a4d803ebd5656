package heap

import (
	"fmt"
	"math"
	"math/rand"
	"slices"
	"testing"

	"threshing/api"
)

// alphabet is the calls of which all short rows are made.
func alphabet() []func(x *pair) {
	return []func(x *pair){
		func(x *pair) { x.push(1) },
		func(x *pair) { x.push(2) },
		func(x *pair) { x.push(3) },
		func(x *pair) { x.remove(1) },
		func(x *pair) { x.remove(2) },
		func(x *pair) { x.pop() },
		func(x *pair) { x.bump(2, 3) },
		func(x *pair) { x.bump(3, 3) },
		func(x *pair) { x.bump(3, 1<<30) },
		func(x *pair) { x.bump(1, Most) },
		func(x *pair) { x.bump(2, Most-3) },
		func(x *pair) { *x = *x.copy() },
	}
}

// P12.2 to P12.5: all short rows of calls.
func TestAllRows(t *testing.T) {
	calls := alphabet()
	const most = 5
	var row []func(x *pair)
	rows := 0
	var longer func()
	longer = func() {
		x := newPair(t, 3)
		for _, c := range row {
			c(x)
		}
		x.agree()
		follows(x)
		rows++
		if len(row) == most {
			return
		}
		for _, c := range calls {
			row = append(row, c)
			longer()
			row = row[:len(row)-1]
		}
	}
	longer()
	want, power := 0, 1
	for range most + 1 {
		want += power
		power *= len(calls)
	}
	if rows != want {
		t.Errorf("%d rows, want %d", rows, want)
	}
}

// follows holds P12.5's first words, by what the heap tells alone: popped till none is left, those in it come in Order, each once.
func follows(x *pair) {
	x.t.Helper()
	order := x.h.Order()
	if got := popped(x.h); !slices.Equal(got, order) || len(got) != x.h.Size() {
		x.t.Fatalf("popped: %v, Order %v, Size %d", got, order, x.h.Size())
	}
	for i, v := range order {
		if !x.h.Has(v) {
			x.t.Fatalf("%v: %d is not in it", order, v)
		}
		if i == 0 {
			continue
		}
		w := order[i-1]
		if x.h.Score(w) < x.h.Score(v) || x.h.Score(w) == x.h.Score(v) && w >= v {
			x.t.Fatalf("%v: %d ahead of %d", order, w, v)
		}
	}
}

// drawnVar is mostly one there is.
func drawnVar(r *rand.Rand, n int) int {
	if r.Intn(15) == 0 {
		l := far(n)
		return l[r.Intn(len(l))]
	}
	return 1 + r.Intn(n)
}

// drawnBy is mostly small, so that scores are often alike; it is seldom wrong, and sometimes so great that scores are halved.
func drawnBy(r *rand.Rand) int64 {
	switch r.Intn(20) {
	default:
		return r.Int63n(4)
	case 0:
		return []int64{math.MinInt64, -1, Most + 1, math.MaxInt64}[r.Intn(4)]
	case 1:
		return Most
	case 2:
		return r.Int63n(Most + 1)
	case 3:
		return Most/2 + r.Int63n(3) - 1
	case 4, 5, 6:
		return r.Int63n(4) << 30
	case 7, 8:
		return r.Int63n(1 << 33)
	}
}

// drawnCall calls something of both, and tells what, and what was answered.
func drawnCall(r *rand.Rand, x *pair) string {
	n := len(x.p.in) - 1
	switch r.Intn(12) {
	case 0, 1, 2, 3:
		return fmt.Sprint("Push ", int(x.push(drawnVar(r, n))))
	case 4, 5:
		return fmt.Sprint("Remove ", int(x.remove(drawnVar(r, n))))
	case 6:
		_, ok := x.pop()
		return fmt.Sprint("Pop ", ok)
	case 7:
		y := x.copy()
		if r.Intn(2) == 0 {
			*x, *y = *y, *x
		}
		y.push(1 + r.Intn(n))
		y.bump(1+r.Intn(n), Most)
		y.pop()
		y.agree()
		return "Copy"
	}
	halved, e := x.bump(drawnVar(r, n), drawnBy(r))
	return fmt.Sprint("Bump ", halved, " ", int(e))
}

// P12.2 to P12.5: long rows of drawn calls, each kind with each of its answers many times.
func TestDrawn(t *testing.T) {
	told := map[string]int{}
	for seed := range 500 {
		r := rand.New(rand.NewSource(int64(seed)))
		x := newPair(t, 1+r.Intn(24))
		for range 150 {
			told[drawnCall(r, x)]++
			x.agree()
			follows(x)
		}
	}
	for _, want := range []string{"Push 0", "Push 2", "Push 6", "Remove 0", "Remove 2", "Remove 5", "Pop true", "Pop false", "Copy", "Bump false 0", "Bump true 0", "Bump false 2"} {
		if told[want] < 300 {
			t.Errorf("%s: %d", want, told[want])
		}
		delete(told, want)
	}
	if len(told) != 0 {
		t.Error(told)
	}
}

// ahead is how many variables come behind v by what a heap of n tells: all of them are put into a copy.
func ahead(h *Heap, n, v int) int {
	h = h.Copy()
	for w := 1; w <= n; w++ {
		h.Push(w)
	}
	return n - 1 - slices.Index(h.Order(), v)
}

// P12.5: a variable that is bumped comes before no fewer than before, unless the scores are halved; all others stay as they are to each other.
func TestBumped(t *testing.T) {
	rises, halvings := 0, 0
	for seed := range 400 {
		r := rand.New(rand.NewSource(int64(9000 + seed)))
		n := 1 + r.Intn(12)
		x := newPair(t, n)
		for range 60 {
			drawnCall(r, x)
			v := 1 + r.Intn(n)
			was, plain, order := ahead(x.h, n, v), x.p.ahead(v), x.h.Order()
			if was != plain {
				t.Fatalf("%d comes before %d, want %d", v, was, plain)
			}
			halved, e := x.bump(v, drawnBy(r))
			now := ahead(x.h, n, v)
			switch {
			case halved:
				halvings++
				continue
			case now < was || e != api.OK && now != was:
				t.Fatalf("%d came before %d, and before %d then", v, was, now)
			case now > was:
				rises++
			}
			not := func(w int) bool { return w == v }
			if left, stay := slices.DeleteFunc(order, not), slices.DeleteFunc(x.h.Order(), not); !slices.Equal(left, stay) {
				t.Fatalf("%v, and %v then", left, stay)
			}
		}
	}
	if rises < 500 || halvings < 500 {
		t.Error(rises, halvings)
	}
}

// P12.5: halving keeps the order of variables whose halved scores are unlike; the others come by their numbers.
func TestHalvingKeeps(t *testing.T) {
	kept, turned := 0, 0
	for seed := range 2000 {
		r := rand.New(rand.NewSource(int64(700 + seed)))
		n := 2 + r.Intn(12)
		x := newPair(t, n)
		for v := 1; v < n; v++ {
			x.bump(v, r.Int63n(5)<<30+r.Int63n(3)*r.Int63n(1<<29))
			if r.Intn(4) > 0 {
				x.push(v)
			}
		}
		was := x.h.Order()
		x.bump(n, Most)
		x.like("Bump", bumped(x.bump(n, 1+r.Int63n(Most))), "true 0")
		x.agree()
		follows(x)
		now := x.h.Order()
		for i, v := range was {
			for _, w := range was[i+1:] {
				switch first := slices.Index(now, v) < slices.Index(now, w); {
				case x.h.Score(v) != x.h.Score(w) && !first:
					t.Fatalf("%v, and %v then: %d and %d", was, now, v, w)
				case x.h.Score(v) == x.h.Score(w) && first != (v < w):
					t.Fatalf("%v, and %v then: %d and %d are alike", was, now, v, w)
				case x.h.Score(v) != x.h.Score(w):
					kept++
				case !first:
					turned++
				}
			}
		}
	}
	if kept < 2000 || turned < 2000 {
		t.Error(kept, turned)
	}
}

// All orders of a few variables' coming in and of their scores: what is popped comes in order.
func TestAllOrders(t *testing.T) {
	orders := [][]int{{}}
	for v := 1; v <= 5; v++ {
		var longer [][]int
		for _, order := range orders {
			for at := range len(order) + 1 {
				longer = append(longer, slices.Insert(slices.Clone(order), at, v))
			}
		}
		orders = longer
	}
	if len(orders) != 120 {
		t.Fatal(len(orders))
	}
	for _, pushes := range orders {
		for _, ranks := range orders {
			h := mustNew(t, 5)
			for _, v := range pushes {
				h.Push(v)
			}
			for place, v := range ranks {
				h.Bump(v, int64(5-place))
			}
			if got := popped(h); !slices.Equal(got, ranks) || !slices.Equal(h.Order(), ranks) {
				t.Fatalf("pushed %v: %v, Order %v, want %v", pushes, got, h.Order(), ranks)
			}
		}
	}
}

// manyScore draws nothing, and has many that are alike.
func manyScore(v int) int64 { return int64(v) * 7919 % 1009 << 25 }

// manyOrder holds that what a heap tells is all of 1 to n, in order.
func manyOrder(t *testing.T, h *Heap, n int) {
	t.Helper()
	order := h.Order()
	if len(order) != n || h.Size() != n {
		t.Fatal(len(order), h.Size())
	}
	for i, v := range order {
		if w, ok := h.Pop(); !ok || w != v {
			t.Fatalf("%d: %d %v, want %d", i, w, ok, v)
		}
		if i == 0 {
			continue
		}
		w := order[i-1]
		if a, b := h.Score(w), h.Score(v); a < b || a == b && w >= v {
			t.Fatalf("%d: %d of %d ahead of %d of %d", i, w, a, v, b)
		}
	}
	if _, ok := h.Pop(); ok || h.Size() != 0 {
		t.Fatal(h.Size())
	}
}

// As many variables as there may be, popped in order, before and behind halving.
func TestMany(t *testing.T) {
	const most = api.MaxVar
	h := mustNew(t, most)
	for v := most; v > 0; v-- {
		if e := h.Push(v); e != api.OK {
			t.Fatal(v, e)
		}
		if halved, e := h.Bump(v, manyScore(v)); halved || e != api.OK {
			t.Fatal(v, e)
		}
	}
	other := h.Copy()
	manyOrder(t, h, most)
	other.Bump(most, Most-manyScore(most))
	if halved, e := other.Bump(most, 1); !halved || e != api.OK {
		t.Fatal(halved, e)
	}
	for v := 1; v < most; v++ {
		if other.Score(v) != manyScore(v)>>30 {
			t.Fatal(v, other.Score(v))
		}
	}
	for v := 2; v <= most; v += 2 {
		if e := other.Remove(v); e != api.OK {
			t.Fatal(v, e)
		}
	}
	manyOrder(t, other, most/2)
	manyOrder(t, h, 0)
}

// A variable that is bumped again and again: its score never is above Most, and never below 0.
func TestBumpedOften(t *testing.T) {
	x := full(t, 0, Most, 5)
	halvings := 0
	for i := range 3000 {
		v := 1 + i%3
		halved, _ := x.bump(v, Most-int64(i%7)*(1<<57))
		if halved {
			halvings++
		}
		for v := 1; v <= 3; v++ {
			if s := x.h.Score(v); s < 0 || s > Most {
				t.Fatal(i, v, s)
			}
		}
		x.agree()
	}
	if halvings < 500 {
		t.Error(halvings)
	}
}

func mustNew(t *testing.T, n int) *Heap {
	t.Helper()
	h, e := New(n)
	if e != api.OK {
		t.Fatal(e)
	}
	return h
}

// The same calls tell the same.
func TestSameTwice(t *testing.T) {
	run := func() string {
		r := rand.New(rand.NewSource(77))
		x := newPair(t, 12)
		var told []any
		for range 300 {
			told = append(told, drawnCall(r, x), x.h.Order(), x.h.Size())
		}
		return fmt.Sprint(told...)
	}
	if run() != run() {
		t.Error("not the same")
	}
}

// Whatever is called, both agree.
func FuzzHeap(f *testing.F) {
	f.Add(uint8(4), []byte{0, 3, 0, 1, 0, 3, 0, 5, 4, 3, 5, 2, 2, 2, 5, 2, 60, 5, 2, 0, 4, 2, 255, 1, 2})
	f.Add(uint8(0), []byte{0, 1, 1, 1, 2, 3, 4, 1, 1, 5, 1, 60})
	f.Add(uint8(9), []byte{0, 9, 0, 8, 5, 9, 31, 5, 8, 30, 3, 5, 9, 60, 5, 9, 60, 2, 2})
	f.Fuzz(func(t *testing.T, n uint8, bytes []byte) {
		x := newPair(t, int(n)%20)
		next := func() int {
			if len(bytes) == 0 {
				return 0
			}
			b := bytes[0]
			bytes = bytes[1:]
			return int(int8(b))
		}
		for calls := 0; len(bytes) > 0 && calls < 300; calls++ {
			switch kind := next(); kind & 7 {
			case 0, 6:
				x.push(next())
			case 1:
				x.remove(next())
			case 2:
				x.pop()
			case 3:
				*x = *x.copy()
			case 4:
				x.bump(next(), int64(next()))
			default:
				x.bump(next(), 1<<(next()&63)+int64(kind>>3))
			}
			x.agree()
			follows(x)
		}
	})
}
