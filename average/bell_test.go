package average

import (
	"fmt"
	"math"
	"math/big"
	"slices"
	"sync"
	"testing"

	"threshing/api"
)

// P15.3: no number below 1; those at and about the powers of two, up to the greatest.
func TestLuby(t *testing.T) {
	for _, i := range []int64{math.MinInt64, math.MinInt64 + 1, math.MinInt64 + 7, -1 << 32, -1<<32 + 7, -8, -7, -2, -1, 0} {
		like(t, fmt.Sprint(i), luby(i), "0 2")
	}
	for k := 1; k <= 63; k++ {
		for d := int64(-5); d <= 5; d++ {
			at := big2(k)
			at.Add(at, big.NewInt(d))
			if !at.IsInt64() || at.Sign() < 1 {
				continue
			}
			like(t, at.String(), luby(at.Int64()), fmt.Sprint(plainLuby(at), " 0"))
		}
		half := int64(1) << (k - 1)
		last := half - 1 + half
		like(t, fmt.Sprint("2 to the ", k, ", less 1"), luby(last), fmt.Sprint(half, " 0"))
		if k > 1 {
			like(t, fmt.Sprint("2 to the ", k, ", less 2"), luby(last-1), fmt.Sprint(half/2, " 0"))
		}
		if k > 2 {
			like(t, fmt.Sprint("2 to the ", k-1), telling(luby(half), luby(half+1), luby(half+2)), telling("1 0", "1 0", "2 0"))
		}
	}
}

// P15.3: numbers that were worked out elsewhere.
func TestLubyGreat(t *testing.T) {
	for i, want := range map[int64]int64{
		math.MaxInt64:       4611686018427387904,
		math.MaxInt64 - 1:   2305843009213693952,
		math.MaxInt64 - 2:   1152921504606846976,
		4611686018427387902: 1152921504606846976,
		4611686018427387903: 2305843009213693952,
		4611686018427387904: 1,
		4611686018427387905: 1,
		6917529027641081854: 1152921504606846976,
		6917529027641081855: 1,
		6917529027641081856: 1,
		1099512676350:       524288,
		1099512676351:       1,
		1000000007:          1,
		123456789012345678:  1,
		6148914691236517205: 1,
	} {
		like(t, fmt.Sprint(i), luby(i), fmt.Sprint(want, " 0"))
	}
	sum := int64(0)
	for i := int64(1); i <= 100000; i++ {
		n, _ := Luby(i)
		sum += n
		if i == 1000 {
			like(t, "1000 together", sum, 4068)
		}
	}
	like(t, "100000 together", sum, 778008)
}

// P15.3: each time from its beginning; left at once, early and late; and again.
func TestRow(t *testing.T) {
	one := Row()
	for _, n := range []int{1, 1, 2, 3, 7, 8, 15, 1, 1000, 4} {
		var all []int64
		for x := range one {
			all = append(all, x)
			if len(all) == n {
				break
			}
		}
		if len(all) != n || !slices.Equal(all, row(n)) {
			t.Fatalf("%d: %v, and of another row %v", n, all, row(n))
		}
		for i, x := range all {
			like(t, fmt.Sprint(n, " at ", i), telling(x, fmt.Sprint(x, " 0")), telling(plainLuby(big.NewInt(int64(i)+1)), luby(int64(i)+1)))
		}
	}
}

// P15.3: what is left is not told more: the one that said that it is enough is not called again.
func TestRowLeft(t *testing.T) {
	for n := 1; n < 20; n++ {
		called := 0
		Row()(func(int64) bool {
			called++
			return called < n
		})
		like(t, "called", called, n)
	}
}

// P15.3: one row ranged over by two at once, one within the other, and as many at once as there are goroutines.
func TestRowTwice(t *testing.T) {
	one := Row()
	want := row(40)
	var outer []int64
	for x := range one {
		outer = append(outer, x)
		var inner []int64
		for y := range one {
			inner = append(inner, y)
			if len(inner) > len(outer) {
				break
			}
		}
		if !slices.Equal(inner, want[:len(inner)]) {
			t.Fatal(inner)
		}
		if len(outer) == 30 {
			break
		}
	}
	if !slices.Equal(outer, want[:30]) {
		t.Fatal(outer)
	}
	var wait sync.WaitGroup
	for range 8 {
		wait.Go(func() {
			i := int64(0)
			for x := range one {
				i++
				if x != number(i) {
					t.Errorf("%d at %d", x, i)
				}
				if i == 5000 {
					return
				}
			}
		})
	}
	wait.Wait()
}

// P15.3: the row is as long as one likes.
func TestRowLong(t *testing.T) {
	i, sum := int64(0), int64(0)
	for x := range Row() {
		i++
		sum += x
		if i == 1<<22-1 {
			break
		}
	}
	like(t, "all together", sum, 22<<21)
}

// P15.4: which periods there are, and what a new bell is.
func TestNewBell(t *testing.T) {
	for _, period := range []int64{math.MinInt64, math.MinInt64 + 1, math.MinInt64 + 3, -1 << 32, -1<<32 + 3, math.MinInt32, -3, -2, -1, 0, 2147483648, 2147483649, 1<<32 - 1, 1 << 32, 1<<32 + 1, 1<<32 + 3, 1 << 62, math.MaxInt64 - 1, math.MaxInt64} {
		if b, e := NewBell(period); b != nil || e != api.ErrArg {
			t.Errorf("NewBell(%d): %v %d", period, b, e)
		}
	}
	for _, period := range []int64{1, 2, 3, 100, 1 << 30, 2147483646, 2147483647} {
		x := newTower(t, period)
		like(t, fmt.Sprint(period), x.b.Round(), 1)
		x.rings(1000)
	}
}

// P15.4: at which calls it rings, by numbers that were worked out elsewhere.
func TestRings(t *testing.T) {
	unit := []int{1, 2, 4, 5, 6, 8, 12, 13, 14, 16, 17, 18, 20, 24, 32, 33, 34, 36, 37, 38}
	for _, period := range []int{1, 2, 3, 7, 100, 1000} {
		x := newTower(t, int64(period))
		var want []int
		for _, u := range unit {
			want = append(want, u*period)
		}
		like(t, fmt.Sprint(period), x.rings(38*period), want)
		like(t, fmt.Sprint(period), x.b.Round(), 21)
	}
}

// P15.4: the round behind each call: it is the next one just behind the call that rings.
func TestRound(t *testing.T) {
	x := newTower(t, 2)
	var told []string
	for range 13 {
		told = append(told, fmt.Sprint(x.tick(), x.b.Round(), x.b.Round()))
	}
	like(t, "rounds", told, "[false 1 1 true 2 2 false 2 2 true 3 3 false 3 3 false 3 3 false 3 3 true 4 4 false 4 4 true 5 5 false 5 5 true 6 6 false 6 6]")
}

// P15.4: a bell of period 1 through many rounds.
func TestRingsLong(t *testing.T) {
	b, e := NewBell(1)
	like(t, "NewBell", int(e), 0)
	calls := 0
	for x := range Row() {
		for i := range x {
			calls++
			if got := b.Tick(); got != (i == x-1) {
				t.Fatalf("call %d: %v", calls, got)
			}
		}
		if b.Round() == 1<<16 {
			break
		}
	}
	like(t, "calls", calls, 16<<15)
}

// P15.4: the greatest period: it rings at that call, and not at one ahead of it.
func TestGreatPeriod(t *testing.T) {
	b, e := NewBell(2147483647)
	like(t, "NewBell", int(e), 0)
	calls := int64(1)
	for !b.Tick() {
		calls++
	}
	like(t, "great", telling(calls, b.Round(), b.Tick(), b.Round()), telling(2147483647, 2, false, 2))
}

// P15.4: rounds of great periods, of which all calls but the last one are left out.
func TestGreatRounds(t *testing.T) {
	for _, period := range []int64{1 << 30, 2147483646, 2147483647} {
		b := newTower(t, period).b
		for round := int64(1); round < 2000; round++ {
			if want := period * plainLuby(big.NewInt(round)).Int64(); b.left != want || b.Round() != round {
				t.Fatalf("round %d: %d calls, want %d", b.Round(), b.left, want)
			}
			b.left = 2
			like(t, fmt.Sprint(round), telling(b.Tick(), b.Tick()), telling(false, true))
		}
	}
}

// P15.4: a nil bell never rings, and has no round.
func TestNilBell(t *testing.T) {
	var b *Bell
	for range 5 {
		like(t, "nil", telling(b.Tick(), b.Round()), telling(false, 0))
	}
}
