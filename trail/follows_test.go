package trail

import (
	"fmt"
	"math/rand"
	"slices"
	"testing"

	"threshing/api"
)

// call is one of a row of calls: it is made of both trails.
type call func(x *pair)

// alphabet is the calls of which all short rows are made.
func alphabet() []call {
	return []call{
		func(x *pair) { x.decide(1) },
		func(x *pair) { x.decide(-2) },
		func(x *pair) { x.assign(-1, None) },
		func(x *pair) { x.assign(2, 0) },
		func(x *pair) { x.assign(3, 1) },
		func(x *pair) { x.back(0) },
		func(x *pair) { x.back(1) },
		func(x *pair) { x.back(2) },
		func(x *pair) { x.next() },
		func(x *pair) { x.move([]int{1, 0}) },
		func(x *pair) { x.move([]int{1}) },
	}
}

// P10.2 to P10.7: all short rows of calls.
func TestAllRows(t *testing.T) {
	calls := alphabet()
	const most = 5
	var row []call
	rows := 0
	var longer func()
	longer = func() {
		x := newPair(t, 3)
		for _, c := range row {
			c(x)
		}
		x.agree()
		rows++
		if len(row) == most {
			return
		}
		for _, c := range calls {
			row = append(row, c)
			longer()
			row = row[:len(row)-1]
		}
	}
	longer()
	want, power := 0, 1
	for range most + 1 {
		want += power
		power *= len(calls)
	}
	if rows != want {
		t.Errorf("%d rows, want %d", rows, want)
	}
}

// drawnLit is mostly of a variable there is.
func drawnLit(r *rand.Rand, vars int) api.Lit {
	if r.Intn(15) == 0 {
		return []api.Lit{leastLit, greatestLit, 0, api.Lit(vars + 1), api.Lit(-vars - 1)}[r.Intn(5)]
	}
	l := api.Lit(1 + r.Intn(vars))
	if r.Intn(2) == 0 {
		return -l
	}
	return l
}

// drawnTo is the numbers that some clauses get; most of them there are, and few go.
func drawnTo(r *rand.Rand) []int {
	to := make([]int, 20-r.Intn(2)*r.Intn(8))
	for i := range to {
		to[i] = r.Intn(20)
		if r.Intn(30) == 0 {
			to[i] = -1 - r.Intn(3)
		}
	}
	return to
}

// drawnCall calls something of both, and tells what, and what was answered.
func drawnCall(r *rand.Rand, x *pair) (string, int) {
	switch r.Intn(12) {
	default:
		return "Assign", int(x.assign(drawnLit(r, x.p.vars), r.Intn(22)-2))
	case 5, 6:
		return "Decide", int(x.decide(drawnLit(r, x.p.vars)))
	case 7:
		level := r.Intn(x.p.levels()+3) - 1
		if r.Intn(2) == 0 {
			level = x.p.levels() - r.Intn(2)
		}
		_, e := x.back(level)
		return "Back", int(e)
	case 8, 9, 10:
		if _, ok := x.next(); !ok {
			return "Next", 1
		}
		return "Next", 0
	case 11:
		return "Move", int(x.move(drawnTo(r)))
	}
}

// P10.2 to P10.7: long rows of drawn calls, each kind with each of its answers many times.
func TestDrawn(t *testing.T) {
	told := map[string]int{}
	full := 0
	for seed := range 500 {
		r := rand.New(rand.NewSource(int64(seed)))
		x := newPair(t, 1+r.Intn(16))
		for range 120 {
			name, e := drawnCall(r, x)
			told[fmt.Sprint(name, " ", e)]++
			x.agree()
			if len(x.p.row) == x.p.vars {
				full++
			}
		}
	}
	for _, want := range []string{"Assign 0", "Assign 4", "Assign 100", "Assign 160", "Decide 0", "Decide 4", "Decide 100", "Back 0", "Back 101", "Next 0", "Next 1", "Move 0", "Move 160"} {
		if told[want] < 300 {
			t.Errorf("%s: %d", want, told[want])
		}
		delete(told, want)
	}
	if len(told) != 0 || full < 300 {
		t.Error(told, full)
	}
}

// follows holds P10.9 of a trail, by what it tells alone: each literal's value is that of the trail, its negation's the opposite, levels rise along it.
func follows(t *testing.T, x *Trail) {
	t.Helper()
	c := x.Lits()
	if len(c) != x.Len() || x.Len() > x.Vars() {
		t.Fatalf("%d literals: %v", x.Len(), c)
	}
	on := map[api.Lit]bool{}
	last := 0
	for place, l := range c {
		v := int(plainVar(l))
		on[l] = true
		level := x.Level(v)
		if on[-l] || x.Place(v) != place {
			t.Fatalf("%d at %d of %v", l, place, c)
		}
		if level < last || level > last+1 || level > last && x.Reason(v) != None {
			t.Fatalf("%d of level %d, reason %d, behind level %d", l, level, x.Reason(v), last)
		}
		last = level
	}
	if last != x.Levels() {
		t.Fatalf("levels up to %d, and Levels %d", last, x.Levels())
	}
	for v := 1; v <= x.Vars(); v++ {
		l, want := api.Lit(v), 0
		switch {
		case on[l]:
			want = 1
		case on[-l]:
			want = -1
		}
		if x.Value(l) != want || x.Value(-l) != -want || (x.Level(v) >= 0) != (want != 0) || (x.Place(v) >= 0) != (want != 0) {
			t.Fatalf("Value(%d): %d %d, want %d; Level %d, Place %d", l, x.Value(l), x.Value(-l), want, x.Level(v), x.Place(v))
		}
	}
}

// again is a new trail, on which nothing comes but what is on this one.
func again(t *testing.T, x *Trail) *Trail {
	t.Helper()
	y := mustNew(t, x.Vars())
	for _, l := range x.Lits() {
		v := int(plainVar(l))
		e := api.OK
		if x.Level(v) > y.Levels() {
			e = y.Decide(l)
		} else {
			e = y.Assign(l, x.Reason(v))
		}
		if e != api.OK {
			t.Fatalf("%d: %d", l, e)
		}
	}
	return y
}

// alike tells whether two trails tell the same of everything, but for the head.
func alike(t *testing.T, x, y *Trail) {
	t.Helper()
	if !slices.Equal(x.Lits(), y.Lits()) || x.Levels() != y.Levels() || x.Vars() != y.Vars() || model(x) != model(y) {
		t.Fatalf("%v of %d levels, and %v of %d", x.Lits(), x.Levels(), y.Lits(), y.Levels())
	}
	for v := -1; v <= x.Vars()+1; v++ {
		if known3(x, v) != known3(y, v) || x.Value(api.Lit(v)) != y.Value(api.Lit(v)) {
			t.Fatalf("%d: %s, and %s", v, known3(x, v), known3(y, v))
		}
	}
}

// P10.9: going back and on again tells nothing of what was there: by what it tells, a trail cannot be known from one on which that never came; and neither by what it tells from then on.
func TestForgets(t *testing.T) {
	backs := 0
	for seed := range 300 {
		r := rand.New(rand.NewSource(int64(4000 + seed)))
		x := newPair(t, 1+r.Intn(12))
		for range 60 {
			name, e := drawnCall(r, x)
			follows(t, x.x)
			if name != "Back" || e != 0 {
				continue
			}
			backs++
			y := again(t, x.x)
			alike(t, x.x, y)
			for range x.p.head { // so that their heads are at one place
				y.Next()
			}
			onward(t, r, x, y)
		}
	}
	if backs < 500 {
		t.Error(backs)
	}
}

// onward goes on with two trails that are alike, and holds them against each other.
func onward(t *testing.T, r *rand.Rand, x *pair, y *Trail) {
	t.Helper()
	for range 8 {
		l, reason, to := drawnLit(r, y.Vars()), r.Intn(22)-2, drawnTo(r)
		var got, want string
		switch r.Intn(5) {
		case 0:
			got, want = decide(y, l), fmt.Sprint(int(x.decide(l)))
		case 1:
			got, want = assign(y, l, reason), fmt.Sprint(int(x.assign(l, reason)))
		case 2:
			c, e := x.back(y.Levels() - 1)
			got, want = back(y, y.Levels()-1), fmt.Sprint(c, int(e))
		case 3:
			got, want = next(y), fmt.Sprint(x.next())
		case 4:
			got, want = move(y, to...), fmt.Sprint(int(x.move(to)))
		}
		if got != want {
			t.Fatalf("%s, and %s", got, want)
		}
		alike(t, x.x, y)
		follows(t, y)
	}
}

// P10.9: literals decided, assigned and taken back in all orders of a few variables: each order, each choice of what is decided, back to each level, and on again the other way round.
func TestFollowsAllOrders(t *testing.T) {
	orders := [][]api.Lit{{}}
	for v := api.Lit(1); v <= 4; v++ {
		var longer [][]api.Lit
		for _, order := range orders {
			for at := range len(order) + 1 {
				longer = append(longer, slices.Insert(slices.Clone(order), at, v))
			}
		}
		orders = longer
	}
	if len(orders) != 24 {
		t.Fatal(len(orders))
	}
	for i, order := range orders {
		other := orders[len(orders)-1-i]
		for decided := range 16 {
			for level := range 5 {
				x := mustNew(t, 4)
				putAll(t, x, order, decided, 1)
				follows(t, x)
				was := x.Lits()
				gone, e := x.Back(level)
				if level > x.Levels() {
					if e != api.ErrLevel || !slices.Equal(x.Lits(), was) {
						t.Fatalf("%v %d", x.Lits(), e)
					}
					continue
				}
				slices.Reverse(gone)
				if e != api.OK || !slices.Equal(slices.Concat(x.Lits(), gone), was) {
					t.Fatalf("%v and %v of %v: %d", x.Lits(), gone, was, e)
				}
				follows(t, x)
				alike(t, x, again(t, x))
				putAll(t, x, other, ^decided, -1)
				follows(t, x)
				alike(t, x, again(t, x))
			}
		}
	}
}

// putAll puts all variables that have no value in that order, each as itself or negated, by its bit decided or assigned.
func putAll(t *testing.T, x *Trail, order []api.Lit, decided int, sign api.Lit) {
	t.Helper()
	for i, l := range order {
		if x.Value(l) != 0 {
			continue
		}
		l *= sign
		e := api.OK
		if decided>>i&1 == 1 {
			e = x.Decide(l)
		} else {
			e = x.Assign(l, int(plainVar(l)))
		}
		if e != api.OK || x.Value(l) != 1 {
			t.Fatalf("%d: %d, %d", l, e, x.Value(l))
		}
	}
}

// manyLit is a literal of each variable, turned about by the round.
func manyLit(v, round int) api.Lit {
	if v%2 == round%2 {
		return api.Lit(-v)
	}
	return api.Lit(v)
}

// whole holds a trail on which all variables are, as manyLit has them.
func whole(t *testing.T, x *Trail, round int) {
	t.Helper()
	m, ok := x.Model()
	c := x.Lits()
	if !ok || len(m) != x.Vars() || x.Len() != x.Vars() || len(c) != x.Vars() {
		t.Fatalf("%v %d %d %d", ok, len(m), x.Len(), len(c))
	}
	for i, l := range c {
		if l != manyLit(i+1, round) || m[i] != (l > 0) || x.Value(l) != 1 || x.Place(i+1) != i {
			t.Fatalf("round %d: %d at %d: %v", round, l, i, m[i])
		}
	}
	for i := range c {
		if l, ok := x.Next(); !ok || l != c[i] {
			t.Fatal(i, l, ok)
		}
	}
}

// As many variables as there may be, all decided, and taken back level by level or at once.
func TestManyLevels(t *testing.T) {
	const most = api.MaxVar
	x := mustNew(t, most)
	for round := range 2 {
		for v := 1; v <= most; v++ {
			if e := x.Decide(manyLit(v, round)); e != api.OK || x.Level(v) != v {
				t.Fatal(v, e)
			}
		}
		whole(t, x, round)
		if x.Levels() != most {
			t.Fatal(x.Levels())
		}
		if round == 0 {
			for level := most - 1; level >= 0; level-- {
				if c, e := x.Back(level); e != api.OK || len(c) != 1 || c[0] != manyLit(level+1, round) {
					t.Fatal(level, c, e)
				}
			}
		} else if c, e := x.Back(0); e != api.OK || len(c) != most || c[0] != manyLit(most, round) || c[most-1] != manyLit(1, round) {
			t.Fatal(len(c), e)
		}
		if x.Len() != 0 || x.Levels() != 0 || x.Value(most) != 0 || next(x) != "0 false" {
			t.Fatal(x.Len(), x.Levels())
		}
	}
}

// As many, all with a reason, and all reasons moved.
func TestManyReasons(t *testing.T) {
	const most = api.MaxVar
	x := mustNew(t, most)
	for v := 1; v <= most; v++ {
		if e := x.Assign(manyLit(v, 0), v-1); e != api.OK || x.Level(v) != 0 {
			t.Fatal(v, e)
		}
	}
	whole(t, x, 0)
	to := make([]int, most)
	for i := range to {
		to[i] = most - 1 - i
	}
	if e := x.Move(to[:most-1]); e != api.ErrReason || x.Reason(1) != 0 {
		t.Fatal(e, x.Reason(1))
	}
	if e := x.Move(to); e != api.OK {
		t.Fatal(e)
	}
	for v := 1; v <= most; v++ {
		if x.Reason(v) != most-v {
			t.Fatal(v, x.Reason(v))
		}
	}
}

func mustNew(t *testing.T, vars int) *Trail {
	t.Helper()
	x, e := New(vars)
	if e != api.OK {
		t.Fatal(e)
	}
	return x
}

// The same calls tell the same.
func TestSameTwice(t *testing.T) {
	run := func() string {
		r := rand.New(rand.NewSource(77))
		x := newPair(t, 12)
		var told []any
		for range 300 {
			name, e := drawnCall(r, x)
			told = append(told, name, e, x.x.Lits(), x.x.Levels(), model(x.x))
		}
		return fmt.Sprint(told...)
	}
	if run() != run() {
		t.Error("not the same")
	}
}

// Whatever is called, both agree.
func FuzzTrail(f *testing.F) {
	f.Add(uint8(3), []byte{0, 1, 1, 10, 254, 0, 3, 7, 30, 30, 30, 30, 20, 2, 20, 0, 30})
	f.Add(uint8(0), []byte{0, 1, 10, 20, 30, 40})
	f.Add(uint8(9), []byte{10, 1, 10, 2, 0, 3, 1, 40, 2, 5, 5, 20, 1, 0, 3, 0, 20, 255})
	f.Fuzz(func(t *testing.T, vars uint8, bytes []byte) {
		x := newPair(t, int(vars)%20)
		next := func() int {
			if len(bytes) == 0 {
				return 0
			}
			b := bytes[0]
			bytes = bytes[1:]
			return int(int8(b))
		}
		for calls := 0; len(bytes) > 0 && calls < 300; calls++ {
			switch kind := next(); {
			case kind >= 0 && kind < 10:
				x.assign(api.Lit(next()), next())
			case kind >= 10 && kind < 20:
				x.decide(api.Lit(next()))
			case kind >= 20 && kind < 30:
				x.back(next())
			case kind >= 30 && kind < 40:
				x.next()
			case kind >= 40 && kind < 50:
				to := make([]int, max(next(), 0))
				for i := range to {
					to[i] = next()
				}
				x.move(to)
			default:
				x.assign(api.Lit(kind), None)
			}
			x.agree()
			follows(t, x.x)
		}
	})
}
