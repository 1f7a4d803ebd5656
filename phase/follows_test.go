package phase

import (
	"fmt"
	"math/rand"
	"slices"
	"testing"

	"threshing/api"
)

// alphabet is the calls of which all short rows are made.
func alphabet() []func(x *pair) {
	return []func(x *pair){
		func(x *pair) { x.save(1) },
		func(x *pair) { x.save(-2, 2, -1) },
		func(x *pair) { x.save(-3, 4) },
		func(x *pair) { x.reach(-1) },
		func(x *pair) { x.reach(2, -3) },
		func(x *pair) { x.reach(3, 1, -3) },
		func(x *pair) { x.reach(1, 2, 0, 3) },
		func(x *pair) { x.turn() },
		func(x *pair) { x.turn(); x.turn(); x.turn() },
		func(x *pair) { x.draw() },
		func(x *pair) { *x = *x.copy() },
	}
}

// P14.2 to P14.6: all short rows of calls.
func TestAllRows(t *testing.T) {
	calls := alphabet()
	const most = 4
	var row []func(x *pair)
	rows := 0
	var longer func()
	longer = func() {
		x := newPair(t, 3, rows%2 == 0, uint64(rows%5))
		for _, c := range row {
			c(x)
		}
		x.agree()
		rows++
		if len(row) == most {
			return
		}
		for _, c := range calls {
			row = append(row, c)
			longer()
			row = row[:len(row)-1]
		}
	}
	longer()
	want, power := 0, 1
	for range most + 1 {
		want += power
		power *= len(calls)
	}
	if rows != want {
		t.Errorf("%d rows, want %d", rows, want)
	}
}

// drawnLits is mostly right ones, some of whose variables are there twice.
func drawnLits(r *rand.Rand, n int) []api.Lit {
	l := make([]api.Lit, r.Intn(1+r.Intn(2*n)))
	for i := range l {
		l[i] = api.Lit((1 + r.Intn(n)) * (1 - 2*r.Intn(2)))
	}
	if r.Intn(12) == 0 {
		w := wrongLits(n)
		l = slices.Insert(l, r.Intn(len(l)+1), w[r.Intn(len(w))])
	}
	return l
}

// drawnCall calls something of both, and tells what, and what was answered.
func drawnCall(r *rand.Rand, x *pair) string {
	n := x.p.n
	switch r.Intn(12) {
	case 0, 1, 2, 3:
		return "Reach " + reached(x.reach(drawnLits(r, n)...))
	case 4, 5:
		return fmt.Sprint("Save ", int(x.save(drawnLits(r, n)...)))
	case 6:
		v := r.Intn(2*n) - n/2
		if r.Intn(4) == 0 {
			v = far(n)[r.Intn(len(far(n)))]
		}
		return "Decide " + decided(x.decide(v))
	case 7, 8, 9:
		return "Turn " + turned(x.turn())
	case 10:
		x.draw()
		return "Draw"
	}
	y := x.copy()
	if r.Intn(2) == 0 {
		*x, *y = *y, *x
	}
	y.save(drawnLits(r, n)...)
	y.reach(drawnLits(r, n)...)
	y.turn()
	y.draw()
	y.agree()
	return "Copy"
}

// P14.2 to P14.6: long rows of drawn calls, each kind with each of its answers many times.
func TestDrawn(t *testing.T) {
	told := map[string]int{}
	for seed := range 500 {
		r := rand.New(rand.NewSource(int64(seed)))
		x := newPair(t, 1+r.Intn(24), r.Intn(2) == 0, r.Uint64()>>r.Intn(65))
		for range 150 {
			told[drawnCall(r, x)]++
			x.agree()
		}
	}
	for _, want := range []string{"Reach true true 0", "Reach true false 0", "Reach false false 0", "Reach false false 2", "Save 0", "Save 2", "Decide true 0", "Decide false 0", "Decide false 2", "Turn original 0", "Turn inverted 0", "Turn best 0", "Turn walk 0", "Turn random 0", "Draw", "Copy"} {
		if told[want] < 800 {
			t.Errorf("%s: %d", want, told[want])
		}
		delete(told, want)
	}
	if len(told) != 0 {
		t.Error(told)
	}
}

// P14.6: two stores with one seed, asked alike, answer alike; and one of another seed does not draw the same.
func TestAskedAlike(t *testing.T) {
	run := func(seed uint64) string {
		r := rand.New(rand.NewSource(77))
		x := newPair(t, 40, true, seed)
		var told []any
		for range 300 {
			told = append(told, drawnCall(r, x), bits(x.s.Saved()), bits(deciding(x)), x.draw())
		}
		return fmt.Sprint(told...)
	}
	for _, seed := range seeds() {
		if run(seed) != run(seed) {
			t.Error(seed, "not the same")
		}
		if seed > 1 && run(seed) == run(1) {
			t.Error(seed, "the same as 1")
		}
	}
	if run(0) != run(1) {
		t.Error("0 is not as 1")
	}
}

// P14.6: behind Save, without a target row, Decide tells what was saved last.
func TestSavedLast(t *testing.T) {
	asked := 0
	for seed := range 300 {
		r := rand.New(rand.NewSource(int64(3000 + seed)))
		n := 1 + r.Intn(12)
		x := newPair(t, n, r.Intn(2) == 0, r.Uint64())
		for range r.Intn(20) {
			x.reach(drawnLits(r, n)...)
			x.turn()
		}
		last := map[api.Lit]bool{} // of which sign each variable was last
		for range 30 {
			l := drawnLits(r, n)
			if x.save(l...) == api.OK {
				for _, y := range l {
					last[max(y, -y)] = y > 0
				}
			}
			for v, value := range last {
				if got, e := x.s.Decide(int(v)); got != value || e != api.OK {
					t.Fatalf("Decide(%d): %v %d, was saved as %v", v, got, e, value)
				}
				asked++
			}
		}
	}
	if asked < 10000 {
		t.Error(asked)
	}
}

// P14.6: behind an original turn all are the start value, behind an inverted one the other, whatever was ahead; and in either case there is no target row.
func TestTurnedAll(t *testing.T) {
	seen := map[Kind]int{}
	for seed := range 300 {
		r := rand.New(rand.NewSource(int64(7000 + seed)))
		n, start := 1+r.Intn(20), r.Intn(2) == 0
		x := newPair(t, n, start, r.Uint64())
		for range 40 {
			x.save(drawnLits(r, n)...)
			x.reach(drawnLits(r, n)...)
			k, _ := x.turn()
			seen[k]++
			saved, told := x.s.Saved(), deciding(x)
			if !slices.Equal(saved, told) {
				t.Fatalf("saved %v, decided %v", saved, told)
			}
			if k == Original && slices.Contains(saved, !start) || k == Inverted && slices.Contains(saved, start) {
				t.Fatalf("%d of %v: %v", k, start, saved)
			}
		}
	}
	if len(seen) != 5 || seen[Original] < 1000 || seen[Inverted] < 1000 {
		t.Error(seen)
	}
}

// P14.6: the generator's state is never 0. A draw is linear in the bits of the state: that the draws of the 64 single bits are independent of each other says that none but 0 is drawn to 0.
func TestNeverZero(t *testing.T) {
	draw := func(seed uint64) uint64 { return newPair(t, 0, false, seed).s.Draw() }
	var rows [64]uint64 // by their highest bit
	for i := range 64 {
		d := draw(1 << i)
		for bit := 63; bit >= 0 && d != 0; bit-- {
			if d>>bit&1 == 0 {
				continue
			}
			if rows[bit] == 0 {
				rows[bit] = d
				break
			}
			d ^= rows[bit]
		}
		if d == 0 {
			t.Fatalf("the draw of bit %d hangs on those of others", i)
		}
	}
	r := rand.New(rand.NewSource(5))
	for range 2000 {
		a, b := r.Uint64()|1, r.Uint64()&^1
		if b != 0 && draw(a)^draw(b) != draw(a^b) {
			t.Fatalf("not linear: %d %d", a, b)
		}
	}
	for _, seed := range seeds() {
		s := newPair(t, 1, true, seed).s
		for i := range 100000 {
			if s.Draw() == 0 || s.state == 0 {
				t.Fatalf("seed %d: 0 at draw %d", seed, i)
			}
		}
	}
}

// P14.4: of many draws about one in eight turns a value over, and about one half are true.
func TestHowMany(t *testing.T) {
	const n = 100000
	for _, seed := range []uint64{0, 12345, 1<<64 - 1} {
		s := newPair(t, n, true, seed).s
		count := func() int {
			trues := 0
			for _, value := range s.Saved() {
				if value {
					trues++
				}
			}
			return trues
		}
		for range 4 {
			s.Turn()
		}
		if over := count(); over < n/8-n/80 || over > n/8+n/80 {
			t.Errorf("%d were turned over", over)
		}
		for range 3 {
			s.Turn()
		}
		if trues := count(); trues < n/2-n/50 || trues > n/2+n/50 {
			t.Errorf("%d are true", trues)
		}
	}
}

// The schedule goes round often: each turn is of its kind.
func TestTurnedOften(t *testing.T) {
	x := newPair(t, 2, false, 4)
	for i := range 20000 {
		if k, e := x.turn(); k != kind(i) || e != api.OK {
			t.Fatal(i, k, e)
		}
		if i%7 == 0 {
			x.reach(1, -2)
		}
		if i%11 == 0 {
			x.reach(2)
		}
	}
	x.agree()
}

// Rows that come and go often: a value of an earlier one is never taken for one of the row.
func TestRowsOften(t *testing.T) {
	r := rand.New(rand.NewSource(31))
	x := newPair(t, 6, true, 4)
	for range 5000 {
		v := api.Lit(1 + r.Intn(6))
		x.reach(-v)
		x.decide(int(v))
		x.decide(1 + r.Intn(6))
		x.reach(v, -api.Lit(1+r.Intn(6)))
		x.decide(int(v))
		x.decide(1 + r.Intn(6))
		x.turn()
	}
	x.agree()
}

// As many variables as there may be: saved, reached and turned as a whole.
func TestMany(t *testing.T) {
	const most = api.MaxVar
	s, e := New(most, false, 0)
	if e != api.OK {
		t.Fatal(e)
	}
	var odd, thirds []api.Lit // of three the first one is not in the row, the second one is false, and the third one true
	for v := api.Lit(1); v <= most; v++ {
		if v%2 == 1 {
			odd = append(odd, v)
		}
		if v%3 != 1 {
			thirds = append(thirds, v*(1-v%3))
		}
	}
	if e := s.Save(odd); e != api.OK {
		t.Fatal(e)
	}
	many(t, s, func(v int) bool { return v%2 == 1 })
	for _, l := range [][]api.Lit{odd[:7], thirds} {
		if target, best, e := s.Reach(l); !target || !best || e != api.OK {
			t.Fatal(target, best, e)
		}
	}
	if target, best, e := s.Reach(odd); target || best || e != api.OK {
		t.Fatal(target, best, e)
	}
	many(t, s, func(v int) bool { return v%3 == 0 || v%3 == 1 && v%2 == 1 })
	for i, want := range []func(v int) bool{
		func(int) bool { return false },
		func(int) bool { return true },
		func(v int) bool { return v%3 != 2 },
	} {
		if k, e := s.Turn(); k != kind(i) || e != api.OK {
			t.Fatal(i, k, e)
		}
		many(t, s, want)
	}
}

// many holds that Decide tells this of every variable.
func many(t *testing.T, s *Phases, want func(v int) bool) {
	t.Helper()
	for v := 1; v <= api.MaxVar; v++ {
		if value, e := s.Decide(v); value != want(v) || e != api.OK {
			t.Fatalf("%d: %v %d", v, value, e)
		}
	}
	if _, e := s.Decide(api.MaxVar + 1); e != api.ErrArg {
		t.Fatal(e)
	}
}

// A row takes time by its own length alone: many short ones in a store of as many variables as there may be.
func TestShortRows(t *testing.T) {
	s, e := New(api.MaxVar, true, 0)
	if e != api.OK {
		t.Fatal(e)
	}
	l := slices.Repeat([]api.Lit{-5, 5}, 2000)
	for i := range l {
		if target, best, e := s.Reach(l[:i+1]); !target || !best || e != api.OK {
			t.Fatal(i, target, best, e)
		}
		if value, e := s.Decide(5); value != (i%2 == 1) || e != api.OK {
			t.Fatal(i, value, e)
		}
	}
}

// Whatever is called, both agree.
func FuzzPhases(f *testing.F) {
	f.Add(uint8(3), true, uint64(0), []byte{0, 2, 1, 1, 254, 0, 4, 1, 1, 4, 2, 2, 2, 255, 0, 1, 0, 2, 2, 3, 1, 3, 2, 1, 253, 0, 3, 4, 4})
	f.Add(uint8(0), false, uint64(7), []byte{0, 1, 1, 1, 2, 3, 3, 3, 3, 3, 4, 4, 5})
	f.Add(uint8(9), true, ^uint64(0), []byte{2, 3, 9, 1, 5, 3, 1, 2, 9, 255, 1, 0, 2, 8, 7, 3, 3, 1, 10, 254, 3, 5, 3})
	f.Fuzz(func(t *testing.T, n uint8, start bool, seed uint64, bytes []byte) {
		x := newPair(t, int(n)%20, start, seed)
		next := func() int {
			if len(bytes) == 0 {
				return 0
			}
			b := bytes[0]
			bytes = bytes[1:]
			return int(int8(b))
		}
		lits := func() []api.Lit {
			l := make([]api.Lit, next()&7)
			for i := range l {
				l[i] = api.Lit(next())
			}
			return l
		}
		for calls := 0; len(bytes) > 0 && calls < 200; calls++ {
			switch next() & 7 {
			case 0:
				x.decide(next())
			case 1:
				x.save(lits()...)
			case 2, 6:
				x.reach(lits()...)
			case 3, 7:
				x.turn()
			case 4:
				x.draw()
			default:
				*x = *x.copy()
			}
			x.agree()
		}
	})
}
