package average

import (
	"fmt"
	"math/big"
	"math/rand"
	"testing"

	"threshing/api"
)

// P15.1, P15.5: all short rows of numbers, of each of some shifts.
func TestAllRows(t *testing.T) {
	numbers := []int64{0, 1, 3, most - 1, most, -1, most + 1}
	const length = 6
	for _, shift := range []int{0, 1, 2, 30} {
		rows := 0
		var longer func(x *pair, left int)
		longer = func(x *pair, left int) {
			rows++
			if left == 0 {
				return
			}
			for _, n := range numbers {
				a := *x.a
				y := &pair{t, &a, &plainAverage{x.p.shift, new(big.Int).Set(x.p.value), x.p.count}}
				y.add(n)
				longer(y, left-1)
			}
		}
		longer(newPair(t, shift), length)
		like(t, "rows", rows, (7*7*7*7*7*7*7-1)/6)
	}
}

// drawnNumber is mostly a right one, of any size.
func drawnNumber(r *rand.Rand) int64 {
	switch r.Intn(12) {
	case 0:
		w := wrongNumbers()
		return w[r.Intn(len(w))]
	case 1:
		return most - int64(r.Intn(2))
	case 2:
		return int64(r.Intn(2))
	}
	return r.Int63n(most+1) >> r.Intn(31)
}

// P15.1, P15.2, P15.5: long rows of drawn numbers, of two averages that are held against each other, each answer many times.
func TestDrawn(t *testing.T) {
	told := map[string]int{}
	for seed := range 300 {
		r := rand.New(rand.NewSource(int64(seed)))
		x, y := newPair(t, r.Intn(31)), newPair(t, r.Intn(31)>>r.Intn(5))
		for range 400 {
			n := drawnNumber(r)
			told[fmt.Sprint("Add ", int(x.add(n)))]++
			if r.Intn(3) > 0 {
				y.add(n)
			}
			margin := 80 + r.Intn(40)
			switch r.Intn(8) {
			case 0:
				margin = r.Intn(10001)
			case 1:
				w := wrongMargins()
				margin = w[r.Intn(len(w))]
			}
			told[fmt.Sprint("Above ", x.above(y, margin))]++
		}
	}
	for _, want := range []string{"Add 0", "Add 2", "Above true", "Above false"} {
		if told[want] < 5000 {
			t.Errorf("%s: %d", want, told[want])
		}
		delete(told, want)
	}
	if len(told) != 0 {
		t.Error(told)
	}
}

// P15.5: a value is never below the least of what was taken in, nor above the greatest, times 2^32.
func TestBounds(t *testing.T) {
	least, greatest := 0, 0
	for seed := range 250 {
		r := rand.New(rand.NewSource(int64(4000 + seed)))
		x := newPair(t, r.Intn(31)>>r.Intn(5))
		lo := r.Int63n(most+1) >> r.Intn(31)
		hi := lo + r.Int63n(most-lo+1)>>r.Intn(31)
		var low, high int64 = most, 0
		for range 1 + r.Intn(300) {
			n := lo + r.Int63n(hi-lo+1)
			switch r.Intn(4) {
			case 0:
				n = lo
			case 1:
				n = hi
			}
			for range 1 + r.Intn(40)*r.Intn(2) {
				x.add(n)
				low, high = min(low, n), max(high, n)
				v := x.a.Value()
				if v < low<<32 || v > high<<32 {
					t.Fatalf("%d of %d to %d", v, low, high)
				}
				if low < high && v == low<<32 {
					least++
				}
				if low < high && v == high<<32 {
					greatest++
				}
			}
		}
	}
	if least < 1000 || greatest < 1000 {
		t.Error(least, greatest)
	}
}

// P15.5: of one number alone, however often, the value is it.
func TestOneAlone(t *testing.T) {
	for shift := range 31 {
		for _, n := range []int64{0, 1, 2, 3, 1000, 12345678, most - 1, most} {
			x := newPair(t, shift)
			for k := range 300 {
				x.add(n)
				if x.a.Value() != n<<32 {
					t.Fatalf("shift %d: %d is %d behind %d", shift, n, x.a.Value(), k+1)
				}
			}
		}
	}
	a, e := New(30)
	like(t, "New", int(e), 0)
	for range 1 << 21 {
		if a.Add(777) != api.OK || a.Value() != 777<<32 {
			t.Fatal(a.Value(), a.Count())
		}
	}
	like(t, "count", a.Count(), 1<<21)
}

// P15.5: 2^k - 1 numbers of the row come to k * 2^(k-1) together; each is a power of two.
func TestRowTogether(t *testing.T) {
	i, sum, k := int64(0), int64(0), int64(1)
	for x := range Row() {
		i++
		sum += x
		if x < 1 || x&(x-1) != 0 {
			t.Fatalf("%d at %d", x, i)
		}
		if n, e := Luby(i); n != x || e != api.OK {
			t.Fatalf("%d at %d: %d %d", x, i, n, e)
		}
		if i != 1<<k-1 {
			continue
		}
		if sum != k<<(k-1) {
			t.Fatalf("%d of %d numbers", sum, i)
		}
		if k++; k > 20 {
			return
		}
	}
}

// P15.3, P15.5: drawn places of any size, as the plain row has them.
func TestDrawnPlaces(t *testing.T) {
	seen := map[int64]int{}
	r := rand.New(rand.NewSource(15))
	for range 4000 {
		i := 1 + r.Int63()>>r.Intn(63)
		if r.Intn(2) == 0 { // of few zeros, where the row's greater numbers are
			i |= 1<<r.Intn(62) - 1
			i -= int64(r.Intn(3))
		}
		if i < 1 {
			like(t, fmt.Sprint(i), luby(i), "0 2")
			continue
		}
		n, e := Luby(i)
		if want := plainLuby(big.NewInt(i)); e != api.OK || n != want.Int64() || n&(n-1) != 0 {
			t.Fatalf("%d: %d %d, want %d", i, n, e, want)
		}
		seen[n]++
	}
	if len(seen) < 30 {
		t.Error(seen)
	}
}

// P15.4, P15.5: drawn bells, as the plain ones have it.
func TestDrawnBells(t *testing.T) {
	rang := 0
	for seed := range 200 {
		r := rand.New(rand.NewSource(int64(seed)))
		x := newTower(t, 1+r.Int63n(1<<31-1)>>r.Intn(31))
		rang += len(x.rings(500))
	}
	if rang < 3000 {
		t.Error(rang)
	}
}

// The same calls, twice: the same answers.
func TestSameTwice(t *testing.T) {
	run := func() string {
		r := rand.New(rand.NewSource(9))
		x, y := newPair(t, 5), newPair(t, 14)
		z := newTower(t, 4)
		var told []any
		for range 300 {
			n := drawnNumber(r)
			told = append(told, x.add(n), y.add(n), x.a.Value(), y.a.Value(), x.above(y, 110), z.tick(), z.b.Round())
		}
		return fmt.Sprint(told...)
	}
	if run() != run() {
		t.Error("not the same")
	}
}

// Whatever is called, both agree.
func FuzzAverages(f *testing.F) {
	f.Add(uint8(2), uint8(0), 110, int64(3), []byte{8, 0, 0, 4, 255, 1, 2, 3})
	f.Add(uint8(30), uint8(1), -1, int64(1), []byte{255, 255, 0, 0, 0, 128, 7})
	f.Add(uint8(0), uint8(14), 10000, int64(1<<40), []byte{1, 255, 254, 3})
	f.Fuzz(func(t *testing.T, fast, slow uint8, margin int, place int64, bytes []byte) {
		x, y := newPair(t, int(fast)%31), newPair(t, int(slow)%31)
		z := newTower(t, 1+place&7)
		for i, b := range bytes[:min(len(bytes), 300)] {
			n := int64(b&31) << (b >> 5 * 4)
			if b >= 224 {
				n = most + 250 - int64(b)
			}
			x.add(n)
			if i%3 > 0 {
				y.add(n)
			}
			x.above(y, margin)
			x.above(y, 90+i%20)
			z.tick()
		}
		want := "0 2"
		if place > 0 {
			want = fmt.Sprint(plainLuby(big.NewInt(place)), " 0")
		}
		like(t, fmt.Sprint(place), luby(place), want)
	})
}
