package queue

import (
	"fmt"
	"math/rand"
	"slices"
	"testing"

	"threshing/api"
)

// alphabet is the calls of which all short rows are made.
func alphabet() []func(x *pair) {
	return []func(x *pair){
		func(x *pair) { x.bump(1) },
		func(x *pair) { x.bump(2) },
		func(x *pair) { x.bump(4) },
		func(x *pair) { x.bump(3, 1) },
		func(x *pair) { x.bump(2, 4, 2) },
		func(x *pair) { x.bump(4, 3, 2, 1) },
		func(x *pair) { x.bump(1, 5) },
		func(x *pair) { x.bump() },
		func(x *pair) { x.next() },
		func(x *pair) { x.next(true, true, true, true) },
		func(x *pair) { x.next(true, false, true, true) },
		func(x *pair) { x.next(false, true, false, true, false) },
		func(x *pair) { *x = *x.copy() },
	}
}

// P13.2 to P13.6: all short rows of calls.
func TestAllRows(t *testing.T) {
	calls := alphabet()
	const most = 4
	var row []func(x *pair)
	rows := 0
	var longer func()
	longer = func() {
		x := newPair(t, 4)
		for _, c := range row {
			c(x)
		}
		x.agree()
		follows(x)
		rows++
		if len(row) == most {
			return
		}
		for _, c := range calls {
			row = append(row, c)
			longer()
			row = row[:len(row)-1]
		}
	}
	longer()
	want, power := 0, 1
	for range most + 1 {
		want += power
		power *= len(calls)
	}
	if rows != want {
		t.Errorf("%d rows, want %d", rows, want)
	}
}

// follows holds P13.6's first words, by what the queue tells alone: the row is all variables, each once, and stamps never fall along it; Next tells the row backward, as those that were told are set.
func follows(x *pair) {
	x.t.Helper()
	order := x.q.Order()
	rising := slices.Sorted(slices.Values(order))
	for i, v := range rising {
		if v != i+1 {
			x.t.Fatalf("%v: not all, each once", order)
		}
	}
	for i := 1; i < len(order); i++ {
		if x.q.Stamp(order[i-1]) > x.q.Stamp(order[i]) {
			x.t.Fatalf("%v: the stamp of %d is greater than that of %d", order, order[i-1], order[i])
		}
	}
	back := emptied(x.q.Copy())
	slices.Reverse(back)
	if len(order) != x.q.Size() || !slices.Equal(back, order) {
		x.t.Fatalf("Order %v, Size %d, emptied %v", order, x.q.Size(), back)
	}
}

// drawnVars is mostly right ones, some of them there twice.
func drawnVars(r *rand.Rand, n int) []int {
	l := make([]int, r.Intn(1+r.Intn(2*n)))
	for i := range l {
		l[i] = 1 + r.Intn(n)
	}
	if r.Intn(12) == 0 {
		f := far(n)
		l = slices.Insert(l, r.Intn(len(l)+1), f[r.Intn(len(f))])
	}
	return l
}

// drawnSet is shorter than n, as long, or longer, of which few are true, or most, or all.
func drawnSet(r *rand.Rand, n int) []bool {
	set := make([]bool, r.Intn(2*n+1))
	if r.Intn(3) > 0 {
		set = make([]bool, n+r.Intn(2))
	}
	of := []int{1, 2, 4, n + 1, 1 << 30}[r.Intn(5)]
	for i := range set {
		set[i] = r.Intn(of) != 0
	}
	return set
}

// drawnCall calls something of both, and tells what, and what was answered.
func drawnCall(r *rand.Rand, x *pair) string {
	n := len(x.p.row)
	switch r.Intn(10) {
	case 0, 1, 2, 3, 4:
		_, ok := x.next(drawnSet(r, n)...)
		return fmt.Sprint("Next ", ok)
	case 5:
		y := x.copy()
		if r.Intn(2) == 0 {
			*x, *y = *y, *x
		}
		y.bump(drawnVars(r, n)...)
		y.next(drawnSet(r, n)...)
		y.agree()
		return "Copy"
	}
	l := drawnVars(r, n)
	if len(l) == 0 {
		return fmt.Sprint("Bump of none ", int(x.bump()))
	}
	return fmt.Sprint("Bump ", int(x.bump(l...)))
}

// P13.2 to P13.6: long rows of drawn calls, each kind with each of its answers many times.
func TestDrawn(t *testing.T) {
	told := map[string]int{}
	for seed := range 500 {
		r := rand.New(rand.NewSource(int64(seed)))
		x := newPair(t, 1+r.Intn(24))
		for range 150 {
			told[drawnCall(r, x)]++
			x.agree()
			follows(x)
		}
	}
	for _, want := range []string{"Bump 0", "Bump 2", "Bump of none 0", "Next true", "Next false", "Copy"} {
		if told[want] < 1000 {
			t.Errorf("%s: %d", want, told[want])
		}
		delete(told, want)
	}
	if len(told) != 0 {
		t.Error(told)
	}
}

// P13.6: variables that are moved together keep their order, and those that stay keep theirs; and those that are moved have one stamp, greater than any other, while the others have theirs.
func TestMovedTogether(t *testing.T) {
	moves, together := 0, 0
	for seed := range 400 {
		r := rand.New(rand.NewSource(int64(9000 + seed)))
		n := 1 + r.Intn(16)
		q := newPair(t, n).q
		for range 60 {
			l := drawnVars(r, n)
			was, stamps := q.Order(), make([]int64, n+1)
			for v := range stamps {
				stamps[v] = q.Stamp(v)
			}
			if e := q.Bump(l...); e != api.OK || len(l) == 0 {
				continue
			}
			moves++
			moved := func(v int) bool { return slices.Contains(l, v) }
			stay := slices.DeleteFunc(slices.Clone(was), moved)
			gone := slices.DeleteFunc(slices.Clone(was), func(v int) bool { return !moved(v) })
			if len(gone) > 1 {
				together++
			}
			if now := q.Order(); !slices.Equal(now, append(stay, gone...)) {
				t.Fatalf("%v, and %v moved: %v", was, l, now)
			}
			for v := 1; v <= n; v++ {
				if s := q.Stamp(v); moved(v) && s != slices.Max(stamps)+1 || !moved(v) && s != stamps[v] {
					t.Fatalf("%v moved: the stamp of %d was %d, and is %d", l, v, stamps[v], s)
				}
			}
		}
	}
	if moves < 5000 || together < 5000 {
		t.Error(moves, together)
	}
}

// P13.6: Next hangs on what is set alone: two queues that were moved alike, of which one is asked all the while, and the other one now and then.
func TestNextAlone(t *testing.T) {
	asked := 0
	for seed := range 500 {
		r := rand.New(rand.NewSource(int64(300 + seed)))
		n := 1 + r.Intn(12)
		x := newPair(t, n)
		y := x.copy()
		for range 40 {
			l := drawnVars(r, n)
			x.bump(l...)
			y.bump(l...)
			for range r.Intn(4) {
				x.next(drawnSet(r, n)...)
			}
			if r.Intn(4) == 0 {
				set := drawnSet(r, n)
				x.like("Next", found(x.next(set...)), found(y.next(set...)))
				x.like("a copy's", found(x.copy().next(set...)), found(y.copy().next(set...)))
				asked++
			}
		}
	}
	if asked < 3000 {
		t.Error(asked)
	}
}

// As a search has it: variables are set as they are told, and freed last first, some of them moved between.
func TestAsSearch(t *testing.T) {
	for seed := range 200 {
		r := rand.New(rand.NewSource(int64(5000 + seed)))
		n := 1 + r.Intn(30)
		x := newPair(t, n)
		set := make([]bool, n)
		var trail []int
		for range 200 {
			v, ok := x.next(set...)
			if ok {
				trail = append(trail, v)
				set[v-1] = true
			}
			if ok && r.Intn(5) > 0 {
				continue
			}
			back := r.Intn(len(trail) + 1)
			x.bump(trail[back:]...)
			for _, v := range trail[back:] {
				set[v-1] = false
			}
			trail = trail[:back]
		}
		x.agree()
		follows(x)
	}
}

// As many variables as there may be: half of them moved at once, in any order, then all, then one by one.
func TestMany(t *testing.T) {
	const most = api.MaxVar
	q, e := New(most)
	if e != api.OK {
		t.Fatal(e)
	}
	var half []int
	for v := most; v > 0; v -= 2 {
		half = append(half, v)
	}
	if e := q.Bump(half...); e != api.OK {
		t.Fatal(e)
	}
	many(t, q, func(place int) (int, int64) {
		if place < most/2 {
			return 2*place + 1, int64(2*place + 1)
		}
		return 2*(place-most/2) + 2, most + 1
	})
	if e := q.Bump(append(half, q.Order()...)...); e != api.OK {
		t.Fatal(e)
	}
	many(t, q, func(place int) (int, int64) {
		if place < most/2 {
			return 2*place + 1, most + 2
		}
		return 2*(place-most/2) + 2, most + 2
	})
	for v := most; v > 0; v-- {
		if e := q.Bump(v); e != api.OK {
			t.Fatal(v, e)
		}
	}
	many(t, q, func(place int) (int, int64) { return most - place, int64(most + 3 + place) })
	set := allBut(most, most)
	if v, ok := q.Next(set); v != most || !ok {
		t.Fatal(v, ok)
	}
	set[0], set[most-1] = false, true
	if v, ok := q.Copy().Next(set); v != 1 || !ok {
		t.Fatal(v, ok)
	}
	set[0] = true
	if v, ok := q.Next(set); v != 0 || ok {
		t.Fatal(v, ok)
	}
}

// many holds that at each place of the row that variable stands, with that stamp.
func many(t *testing.T, q *Queue, want func(place int) (int, int64)) {
	t.Helper()
	row := q.Order()
	if len(row) != q.Size() || q.Size() != api.MaxVar {
		t.Fatal(len(row), q.Size())
	}
	for place, v := range row {
		if w, stamp := want(place); v != w || q.Stamp(v) != stamp {
			t.Fatalf("%d: %d of %d, want %d of %d", place, v, q.Stamp(v), w, stamp)
		}
	}
	if v, ok := q.Next(nil); !ok || v != row[len(row)-1] {
		t.Fatal(v, ok)
	}
}

// Variables that are moved again and again, those at the end too: the row's order holds, and stamps go on by one.
func TestMovedOften(t *testing.T) {
	x := newPair(t, 3)
	for k := range int64(20000) {
		v := 1 + int(k*k%7%3)
		x.bump(v)
		if x.q.Stamp(v) != 4+k {
			t.Fatal(k, x.q.Stamp(v))
		}
		x.next(k%2 == 0, k%3 == 0, k%5 == 0)
	}
	x.agree()
	follows(x)
	one := newPair(t, 1)
	for k := range int64(1000) {
		one.bump(1, 1)
		one.like("Stamp", one.q.Stamp(1), 2+k)
	}
	one.agree()
}

// The same calls tell the same, however a map is gone through.
func TestSameTwice(t *testing.T) {
	run := func() string {
		r := rand.New(rand.NewSource(77))
		x := newPair(t, 40)
		var told []any
		for range 300 {
			told = append(told, drawnCall(r, x), x.q.Order())
		}
		return fmt.Sprint(told...)
	}
	if run() != run() {
		t.Error("not the same")
	}
}

// Whatever is called, both agree.
func FuzzQueue(f *testing.F) {
	f.Add(uint8(5), []byte{1, 0, 1, 5, 16, 0, 2, 2, 4, 0, 4, 4, 2, 4, 1, 0, 1, 6, 0, 0, 1, 5, 31, 0})
	f.Add(uint8(0), []byte{0, 1, 1, 1, 2, 3, 0, 0, 2, 1, 255})
	f.Add(uint8(9), []byte{0, 3, 9, 1, 5, 1, 9, 255, 1, 0, 2, 8, 7, 2, 1, 10, 254, 3})
	f.Fuzz(func(t *testing.T, n uint8, bytes []byte) {
		x := newPair(t, int(n)%20)
		next := func() int {
			if len(bytes) == 0 {
				return 0
			}
			b := bytes[0]
			bytes = bytes[1:]
			return int(int8(b))
		}
		for calls := 0; len(bytes) > 0 && calls < 300; calls++ {
			switch next() & 3 {
			case 0:
				l := make([]int, next()&7)
				for i := range l {
					l[i] = next()
				}
				x.bump(l...)
			case 1, 2:
				set := make([]bool, next()&31)
				bits := next() | next()<<8 | next()<<16
				for i := range set {
					set[i] = bits>>i&1 == 1
				}
				x.next(set...)
			default:
				*x = *x.copy()
			}
			x.agree()
			follows(x)
		}
	})
}
