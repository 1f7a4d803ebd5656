package average

import (
	"fmt"
	"math"
	"math/big"
	"testing"

	"threshing/api"
)

// The chapter's examples.
func TestExamples(t *testing.T) {
	a, e := New(2)
	like(t, "New", int(e), 0)
	for i, y := range [][2]int64{{8, 8 << 32}, {0, 4 << 32}, {0, 2 << 32}, {4, 10737418240}} {
		if e := a.Add(y[0]); e != api.OK || a.Value() != y[1] || a.Count() != int64(i)+1 {
			t.Errorf("%d: %d %d %d", i, e, a.Value(), a.Count())
		}
	}
	var all []int64
	for i := range int64(15) {
		n, e := Luby(i + 1)
		like(t, "Luby", int(e), 0)
		all = append(all, n)
	}
	like(t, "Luby", all, "[1 1 2 1 1 2 4 1 1 2 1 1 2 4 8]")
	x, y := newPair(t, 0), newPair(t, 0)
	x.add(11)
	y.add(10)
	like(t, "Above", telling(x.above(y, 110), x.above(y, 109), x.above(y, 111)), telling(false, true, false))
	b, e := NewBell(3)
	like(t, "NewBell", int(e), 0)
	var rings []int
	for i := range 40 {
		if b.Tick() {
			rings = append(rings, i+1)
		}
	}
	like(t, "Tick", rings, "[3 6 12 15 18 24 36 39]")
}

// The plain ones must tell the examples too, if they are to stand for the chapter.
func TestExamplesPlain(t *testing.T) {
	x := newPair(t, 2)
	x.add(8, 0, 0, 4)
	like(t, "value", x.p.value, int64(5)<<31)
	var all []int64
	for i := range int64(15) {
		all = append(all, plainLuby(big.NewInt(i+1)).Int64())
	}
	like(t, "row", all, "[1 1 2 1 1 2 4 1 1 2 1 1 2 4 8]")
	like(t, "rings", newTower(t, 3).rings(36), "[3 6 12 15 18 24 36]")
}

// P15.1: which shifts there are, and what a new average is.
func TestNew(t *testing.T) {
	for _, shift := range []int{math.MinInt, math.MinInt + 1, math.MinInt + 7, -1 << 32, -1<<32 + 7, -256, -249, -64, -30, -2, -1, 31, 32, 33, 63, 64, 256, 257, 1 << 31, 1 << 32, 1<<32 + 7, 1 << 62, math.MaxInt} {
		if a, e := New(shift); a != nil || e != api.ErrArg {
			t.Errorf("New(%d): %v %d", shift, a, e)
		}
	}
	for shift := range 31 {
		x := newPair(t, shift)
		x.agree()
		like(t, fmt.Sprint(shift), telling(x.a.Value(), x.a.Count()), telling(0, 0))
		x.add(3, 0, 0, 0, 9)
	}
}

// P15.1: which numbers are taken in: as the first one, and behind others; what is not is not counted.
func TestAdd(t *testing.T) {
	for _, shift := range []int{0, 1, 2, 14, 29, 30} {
		x := newPair(t, shift)
		for range 3 {
			was := telling(x.a.Value(), x.a.Count())
			for _, n := range wrongNumbers() {
				like(t, fmt.Sprint(n), int(x.add(n)), 2)
				like(t, fmt.Sprint(n), telling(x.a.Value(), x.a.Count()), was)
			}
			x.add(most-1, most, 0, 1)
		}
		for _, n := range []int64{0, 1, 2, most - 1, most} {
			x := newPair(t, shift)
			like(t, fmt.Sprint(n), telling(int(x.add(n)), x.a.Value(), x.a.Count()), telling(0, n<<32, 1))
		}
	}
}

// P15.1: values by numbers that were worked out elsewhere.
func TestValues(t *testing.T) {
	numbers := []int64{1, 0, 0, 7, 3, 0, 0, 1, 5, most, 0, 2, 2}
	late := []int64{4294967296, 2147483648, 1073741824, 8321499136, 9462349824, 7096762368, 5322571776, 5194121216, 7229210624, 576460758628982784, 504403163800359936, 441352769399056768, 386183674297916496}
	for _, y := range []struct {
		shift int
		want  []int64
	}{
		{0, []int64{4294967296, 0, 0, 30064771072, 12884901888, 0, 0, 4294967296, 21474836480, 4611686018427387904, 0, 8589934592, 8589934592}},
		{1, []int64{4294967296, 2147483648, 1073741824, 15569256448, 14227079168, 7113539584, 3556769792, 3925868544, 12700352512, 2305843015563870208, 1152921507781935104, 576460758185934848, 288230383387934720}},
		{2, []int64{4294967296, 2147483648, 1073741824, 8321499136, 9462349824, 7096762368, 5322571776, 5065670656, 9167962112, 1152921511482818560, 864691133612113920, 648518352356569088, 486388766414910464}},
		{3, late}, {5, late}, {14, late}, {30, late},
	} {
		x := newPair(t, y.shift)
		for i, n := range numbers {
			like(t, fmt.Sprint(y.shift, " at ", i), telling(int(x.add(n)), x.a.Value(), x.a.Count()), telling(0, y.want[i], i+1))
		}
	}
}

// P15.1: the same of a thousand numbers.
func TestValuesLong(t *testing.T) {
	for _, y := range []struct {
		shift int
		want  map[int64]int64
	}{
		{3, map[int64]int64{100: 2242303997016568, 500: 2240816390845054, 1000: 2017234887145731}},
		{14, map[int64]int64{100: 2166480963818043, 500: 2150198505620101, 1000: 2160314544496644}},
		{30, map[int64]int64{100: 2166480963818043, 500: 2150198505620101, 1000: 2160314544496644}},
	} {
		x := newPair(t, y.shift)
		seen := 0
		for i := range int64(1000) {
			x.add(i * i * 7919 % 1000003)
			if want, ok := y.want[x.a.Count()]; ok {
				seen++
				like(t, fmt.Sprint(y.shift, " at ", x.a.Count()), x.a.Value(), want)
			}
		}
		like(t, "seen", seen, 3)
	}
}

// P15.1: from the greatest down to 0 and from 0 up: below 0 it is rounded down too, so that a value comes to 0, and does not come to the greatest.
func TestUpAndDown(t *testing.T) {
	for _, y := range []struct {
		shift    int
		down, up [4]int64 // behind 101, 32, 63 and 64 numbers
	}{
		{1, [4]int64{0, 2147483648, 1, 0}, [4]int64{4611686018427387903, 4611686016279904256, 4611686018427387903, 4611686018427387903}},
		{5, [4]int64{4835815533855378, 43237577702342016, 16159374143756277, 15654393701763893}, [4]int64{4606850202893532496, 4568448440725045882, 4595526644283631608, 4596031624725623992}},
		{30, [4]int64{8882319775127815, 43237577702342016, 16159374143756277, 15906883922760085}, [4]int64{4602803698652260048, 4568448440725045882, 4595526644283631608, 4595779134504627800}},
	} {
		down, up := newPair(t, y.shift), newPair(t, y.shift)
		down.add(most)
		up.add(0)
		for i := 2; i <= 101; i++ {
			down.add(0)
			up.add(most)
			for j, at := range []int{101, 32, 63, 64} {
				if i == at {
					like(t, fmt.Sprint(y.shift, " at ", i), telling(down.a.Value(), up.a.Value()), telling(y.down[j], y.up[j]))
				}
			}
		}
	}
	x := newPair(t, 0)
	for range 5 {
		x.add(most)
		like(t, "up", x.a.Value(), int64(1)<<62)
		x.add(0)
		like(t, "down", x.a.Value(), 0)
	}
}

// P15.1: by which number what is new is divided: at the powers of two, and by no more than the shift says.
func TestWeights(t *testing.T) {
	for shift := range 31 {
		x := newPair(t, shift)
		x.add(0)
		for k := int64(2); k <= 1100; k++ {
			was := x.a.Value()
			x.add(1)
			s := min(shift, plainLog(k))
			if got := x.a.Value() - was; got != (1<<32-was)>>s {
				t.Fatalf("shift %d, number %d: %d more", shift, k, got)
			}
		}
	}
}

// P15.1: the greatest shift is come to, and stays, behind 2^30 numbers; all the weights of so many.
func TestManyNumbers(t *testing.T) {
	for _, y := range []struct {
		shift int
		count int64
		s     int
	}{
		{30, 1<<29 - 2, 28}, {30, 1<<29 - 1, 29}, {30, 1<<30 - 2, 29}, {30, 1<<30 - 1, 30}, {30, 1 << 30, 30}, {30, 1<<31 - 1, 30}, {30, 1 << 40, 30}, {30, 1<<62 - 1, 30}, {29, 1<<30 - 1, 29}, {28, 1 << 40, 28}, {0, 1 << 40, 0}, {1, 1 << 40, 1},
	} {
		for _, value := range []int64{0, 1, 5 << 32, 1<<62 - 1, 1 << 62} {
			for _, n := range []int64{0, 1, 6, most - 1, most} {
				a := newPair(t, y.shift).a
				a.value, a.count = value, y.count
				want := new(big.Int).Sub(new(big.Int).Lsh(big.NewInt(n), 32), big.NewInt(value))
				want.Rsh(want, uint(y.s)) // which rounds down
				want.Add(want, big.NewInt(value))
				if e := a.Add(n); e != api.OK || big.NewInt(a.Value()).Cmp(want) != 0 || a.Count() != y.count+1 {
					t.Errorf("%v, %d, %d: %d, want %d", y, value, n, a.Value(), want)
				}
			}
		}
	}
}

// P15.1, P15.2: a nil average: ErrNil, whatever else is wrong; of no value and no count, and above none.
func TestNil(t *testing.T) {
	var a *Average
	other := newPair(t, 3)
	other.add(7)
	for _, n := range append(wrongNumbers(), 0, 1, most) {
		if e := a.Add(n); e != api.ErrNil {
			t.Errorf("Add(%d): %d", n, e)
		}
		like(t, "nil", telling(a.Value(), a.Count()), telling(0, 0))
	}
	for _, margin := range append(wrongMargins(), 0, 1, 99, 100, 101, 10000) {
		if Above(a, other.a, margin) || Above(other.a, a, margin) || Above(a, a, margin) || Above(nil, nil, margin) {
			t.Errorf("above with %d", margin)
		}
	}
	other.agree()
}

// An average that was not made by New is one of shift 0; a bell that was not made by NewBell never rings, and has no round. No call of either panics.
func TestNotMade(t *testing.T) {
	var a Average
	var b Bell
	like(t, "value", telling(a.Value(), a.Count()), telling(0, 0))
	for _, n := range []int64{4, 0, 9, most} {
		like(t, "Add", telling(int(a.Add(n)), a.Value(), int(a.Add(-1)), int(a.Add(most+1))), telling(0, n<<32, 2, 2))
	}
	like(t, "count", a.Count(), 4)
	like(t, "Above", telling(Above(&a, &Average{}, 10000), Above(&Average{}, &a, 0)), telling(true, false))
	for range 1000 {
		like(t, "bell", telling(b.Tick(), b.Round()), telling(false, 0))
	}
}

// valued is an average of this value.
func valued(value int64) *Average { return &Average{value: value} }

// P15.2: the margins there are.
func TestMargins(t *testing.T) {
	x, y, zero := newPair(t, 0), newPair(t, 0), newPair(t, 0)
	x.add(most)
	y.add(1)
	for _, margin := range wrongMargins() {
		if x.above(y, margin) || y.above(x, margin) || x.above(x, margin) || x.above(zero, margin) {
			t.Errorf("above with %d", margin)
		}
	}
	for _, margin := range []int{0, 1, 99, 100, 101, 9999, 10000} {
		like(t, fmt.Sprint(margin), telling(x.above(y, margin), x.above(zero, margin), zero.above(x, margin), zero.above(zero, margin), x.above(x, margin)), telling(true, true, false, false, margin < 100))
		like(t, fmt.Sprint(margin), y.above(x, margin), margin == 0)
	}
}

// P15.2: with both the same: above itself just with less than 100, unless it is 0.
func TestSelf(t *testing.T) {
	for _, n := range []int64{0, 1, 2, 1000, most - 1, most} {
		for _, shift := range []int{0, 30} {
			x := newPair(t, shift)
			x.above(x, 50)
			x.add(n)
			for margin := range 10001 {
				if got := x.above(x, margin); got != (n > 0 && margin < 100) {
					t.Fatalf("%d with %d: %v", n, margin, got)
				}
			}
		}
	}
}

// P15.2: at and about the point where both sides are the same, with products of up to 76 bits; by values that numbers alone do not come to.
func TestAboveAbout(t *testing.T) {
	same := 0
	for _, slow := range []int64{0, 1, 2, 3, 99, 100, 101, 1 << 32, 25 << 32, 1<<55 + 1, 1<<58 - 1, 1 << 58, 1<<61 + 12345, 1<<62 - 100, 1<<62 - 1, 1 << 62} {
		for _, margin := range []int{0, 1, 2, 33, 50, 99, 100, 101, 110, 150, 200, 1000, 1844, 1845, 9999, 10000} {
			point := new(big.Int).Mul(big.NewInt(slow), big.NewInt(int64(margin)))
			point.Div(point, big.NewInt(100))
			if point.Cmp(big2(62)) > 0 {
				point = big2(62)
			}
			for d := int64(-3); d <= 3; d++ {
				fast := point.Int64() + d
				if fast < 0 || fast > 1<<62 {
					continue
				}
				want := plainAbove(big.NewInt(fast), big.NewInt(slow), margin)
				if got := Above(valued(fast), valued(slow), margin); got != want {
					t.Errorf("Above of %d and %d with %d: %v", fast, slow, margin, got)
				}
				a, b := new(big.Int).Mul(big.NewInt(fast), big.NewInt(100)), new(big.Int).Mul(big.NewInt(slow), big.NewInt(int64(margin)))
				if a.Cmp(b) == 0 {
					same++
				}
			}
		}
	}
	if same < 50 {
		t.Error(same)
	}
}

// P15.2: the words of both products, the higher and the lower one, each by itself.
func TestAboveWords(t *testing.T) {
	for i, y := range []struct {
		fast, slow int64
		margin     int
		want       bool
	}{
		{1 << 62, 1 << 62, 99, true},
		{1 << 62, 1 << 62, 100, false},
		{1 << 62, 1 << 62, 10000, false},
		{1 << 62, 1<<62 - 1, 100, true},           // the higher words are apart, the lower one is 0
		{1<<62 - 1, 1 << 62, 100, false},          // and the other way round
		{1 << 57, 1<<57 + 1, 100, false},          // of one word each
		{1<<60 + 1, 1 << 60, 100, true},           // the higher words are the same
		{1 << 60, 1<<60 + 1, 100, false},          // and the other way round
		{184467440737095517, 1 << 62, 1, true},    // of two words, 1 and 84, and of one that is greater than 84
		{1 << 55, 1 << 62, 10000, false},          // of one word and of two
		{1 << 62, 46116860184273879, 10000, true}, // 2^62 * 100 is 46116860184273879.04 times 10000
		{1 << 62, 46116860184273880, 10000, false},
		{1 << 62, 46116860184273878, 10000, true},
		{1844674407370955161, 1 << 62, 40, false}, // 2^62 * 40 is 10 * 2^64, and 100 times this one is 60 less
		{1844674407370955162, 1 << 62, 40, true},
	} {
		if got := Above(valued(y.fast), valued(y.slow), y.margin); got != y.want {
			t.Errorf("%d: %v", i, got)
		}
		if want := plainAbove(big.NewInt(y.fast), big.NewInt(y.slow), y.margin); want != y.want {
			t.Errorf("%d: plainly %v", i, want)
		}
	}
}

// P15.2: of numbers taken in: the greatest ones, whose products run over 64 bits.
func TestAboveGreat(t *testing.T) {
	x, y := newPair(t, 0), newPair(t, 0)
	x.add(most)
	for _, n := range []int64{most, most - 1, most / 2, most/100 + 1, most / 100, 10737418, 10737419} {
		y.add(n)
		for margin := 0; margin <= 10000; margin += 7 {
			x.above(y, margin)
		}
		for _, margin := range []int{99, 100, 101, 199, 200, 201, 9999, 10000} {
			x.above(y, margin)
		}
	}
	like(t, "Above", telling(x.above(x, 100), x.above(x, 99), x.above(y, 10000)), telling(false, true, false))
	y.add(10737418)
	like(t, "Above", telling(x.above(y, 10000), y.above(x, 0), y.above(x, 1)), telling(true, true, false))
}
