package reduce

import (
	"fmt"
	"math"
	"math/rand"
	"slices"
	"testing"

	"threshing/api"
)

// The chapter's examples.
func TestExamples(t *testing.T) {
	for lbd, want := range map[int]int{2: 1, 3: 2, 6: 2, 7: 3} {
		like(t, fmt.Sprint("Tier of ", lbd), Tier(Record{LBD: lbd}, 2), want)
	}
	l := []Record{{ID: 5, LBD: 3, Size: 4}, {ID: 6, LBD: 9, Size: 9}, {ID: 7, LBD: 9, Size: 12, Used: 1}, {ID: 8, LBD: 9, Size: 12, Used: 2}, {ID: 9, LBD: 1, Size: 2}}
	for _, y := range []struct {
		part int
		want []int64
		e    api.Errno
	}{
		{100, []int64{7, 6, 5}, 0}, {67, []int64{7, 6}, 0}, {33, nil, 0}, {101, nil, 2},
		{0, nil, 0}, {34, []int64{7}, 0}, {66, []int64{7}, 0}, {99, []int64{7, 6}, 0}, {-1, nil, 2},
	} {
		got, e := Choose(l, 2, y.part)
		if !slices.Equal(got, y.want) || e != y.e {
			t.Errorf("with %d: %v %d", y.part, got, e)
		}
		choose(t, l, 2, y.part)
	}
	for n, want := range map[int64]int64{1: 300, 2: 900, 3: 1800, 4: 3000} {
		x, e := Limit(300, n)
		like(t, fmt.Sprint("Limit of ", n), fmt.Sprint(x, int(e)), fmt.Sprint(want, 0))
	}
}

// P18.1: at the glue, and one, four and five above it; with a glue below 0, and one above 65535.
func TestTier(t *testing.T) {
	for _, y := range []struct{ glue, lbd, want int }{
		{0, 0, 1}, {0, 1, 2}, {0, 4, 2}, {0, 5, 3},
		{1, 0, 1}, {1, 1, 1}, {1, 2, 2}, {1, 5, 2}, {1, 6, 3},
		{100, 100, 1}, {100, 101, 2}, {100, 104, 2}, {100, 105, 3},
		{65534, 65534, 1}, {65534, 65535, 2}, {65534, 65538, 2}, {65534, 65539, 3},
		{65535, 65535, 1}, {65535, 65536, 2}, {65535, 65539, 2}, {65535, 65540, 3},
		{65536, 65535, 1}, {65536, 65536, 2}, {65536, 65539, 2}, {65536, 65540, 3},
		{65540, 65540, 3}, {70000, 65539, 2}, {70000, 70000, 3}, {1 << 32, 1, 1}, {1 << 32, 65536, 2},
		{math.MaxInt, 65535, 1}, {math.MaxInt, 65536, 2}, {math.MaxInt, 65540, 3}, {math.MaxInt, math.MaxInt, 3}, {math.MaxInt - 3, math.MinInt, 1},
		{-1, -1, 1}, {-1, 0, 1}, {-1, 1, 2}, {-1, 4, 2}, {-1, 5, 3},
		{-5, 0, 1}, {-5, 1, 2}, {math.MinInt, math.MinInt, 1}, {math.MinInt, 0, 1}, {math.MinInt, 4, 2}, {math.MinInt, 5, 3},
		{2, math.MinInt, 1}, {2, -1, 1}, {2, math.MaxInt, 3}, {2, 1 << 32, 3}, {2, 1<<32 + 2, 3},
	} {
		if got := tier(t, Record{LBD: y.lbd}, y.glue); got != y.want {
			t.Errorf("%v: %d", y, got)
		}
	}
}

// P18.1: all small glues and LBDs, and all pairs of numbers of any size.
func TestTierPlain(t *testing.T) {
	counts := [4]int{}
	for glue := -20; glue <= 120; glue++ {
		for lbd := -20; lbd <= 140; lbd++ {
			counts[tier(t, Record{LBD: lbd}, glue)]++
		}
	}
	for lbd := 65500; lbd < 65600; lbd++ {
		for glue := 65500; glue < 65600; glue++ {
			counts[tier(t, Record{LBD: lbd}, glue)]++
		}
	}
	for _, glue := range sizes() {
		for _, lbd := range sizes() {
			counts[tier(t, Record{LBD: lbd}, glue)]++
		}
	}
	for n, count := range counts[1:] {
		if count < 500 {
			t.Errorf("tier %d: %d", n+1, count)
		}
	}
}

// P18.1: by its LBD alone.
func TestTierByLBD(t *testing.T) {
	for _, n := range sizes() {
		for _, locked := range []bool{false, true} {
			for lbd, want := range map[int]int{2: 1, 3: 2, 6: 2, 7: 3} {
				like(t, fmt.Sprint(n), Tier(Record{ID: int64(n), LBD: lbd, Size: n, Used: n, Locked: locked}, 2), want)
			}
		}
	}
}

// P18.2: which ones may go: by lock, tier and use.
func TestMayGo(t *testing.T) {
	for _, y := range []struct{ lbd, upTo int }{{-7, -1}, {0, -1}, {1, -1}, {2, -1}, {3, 0}, {4, 0}, {5, 0}, {6, 0}, {7, 1}, {8, 1}, {1 << 40, 1}} {
		for used := range 7 {
			r := Record{ID: 77, LBD: y.lbd, Size: 3, Used: used}
			got := choose(t, []Record{r}, 2, 100)
			if (len(got) == 1) != (used <= y.upTo) {
				t.Errorf("%v: %v", r, got)
			}
			r.Locked = true
			if got := choose(t, []Record{r}, 2, 100); len(got) != 0 {
				t.Errorf("%v: %v", r, got)
			}
		}
	}
}

// P18.2: one that was used less than 0 times was not used; none of tier 1 may go for it, and none that is locked.
func TestUsedBelowNone(t *testing.T) {
	for _, used := range []int{-1, -2, -1 << 32, -1<<32 + 1, -1<<32 + 2, math.MinInt32, math.MinInt} {
		for lbd, want := range map[int]int{2: 0, 3: 1, 6: 1, 7: 1} {
			r := Record{ID: 4, LBD: lbd, Size: 3, Used: used}
			like(t, fmt.Sprint(r), len(choose(t, []Record{r}, 2, 100)), want)
			r.Locked = true
			like(t, fmt.Sprint(r), len(choose(t, []Record{r}, 2, 100)), 0)
		}
	}
	for _, used := range []int{math.MaxInt, math.MaxInt32, 1 << 31, 1 << 32, 1<<32 + 1, 256, 65536} {
		for _, lbd := range []int{2, 3, 7} {
			r := Record{ID: 4, LBD: lbd, Size: 3, Used: used}
			like(t, fmt.Sprint(r), len(choose(t, []Record{r}, 2, 100)), 0)
		}
	}
}

// P18.2: with a glue below 0 as with 0, with one above 65535 as with that.
func TestChooseGlue(t *testing.T) {
	var l []Record
	for i, n := range sizes() {
		for used := range 3 {
			l = append(l, Record{ID: int64(3*i + used), LBD: n, Size: 2, Used: used})
		}
	}
	least, greatest := choose(t, l, 0, 100), choose(t, l, 65535, 100)
	if len(least) <= len(greatest) || len(greatest) == 0 {
		t.Fatal(least, greatest)
	}
	for _, glue := range sizes() {
		got := choose(t, l, glue, 100)
		if glue <= 0 {
			like(t, fmt.Sprint(glue), got, least)
		}
		if glue >= 65535 {
			like(t, fmt.Sprint(glue), got, greatest)
		}
	}
}

// P18.2: a part outside of 0 to 100, whatever else is handed in; nothing is chosen then.
func TestWrongPart(t *testing.T) {
	for _, part := range wrongParts() {
		for _, l := range [][]Record{nil, {}, {{ID: 1}}, unlike(1), unlike(7), unlike(300)} {
			for _, glue := range []int{math.MinInt, -1, 0, 2, 65536, math.MaxInt} {
				if got, e := Choose(l, glue, part); len(got) != 0 || e != api.ErrArg {
					t.Errorf("%d of %d: %v %d", part, len(l), got, e)
				}
			}
		}
	}
}

// P18.2: no record, and none that may go.
func TestNone(t *testing.T) {
	for part := range 101 {
		for _, l := range [][]Record{nil, {}, {{ID: 1, LBD: 2}}, {{ID: 1, LBD: 9, Used: 2}, {ID: 2, LBD: 3, Used: 1}, {ID: 3, LBD: 9, Locked: true}, {ID: 4, LBD: -3}}} {
			if got, e := Choose(l, 2, part); len(got) != 0 || e != api.OK {
				t.Errorf("%d of %v: %v %d", part, l, got, e)
			}
		}
	}
}

// P18.2: the number times part, by 100, rounded down: of those that may go, not of all.
func TestPart(t *testing.T) {
	for _, y := range []struct{ n, part, want int }{
		{1, 99, 0}, {1, 100, 1}, {2, 49, 0}, {2, 50, 1}, {2, 99, 1}, {3, 33, 0}, {3, 34, 1}, {3, 66, 1}, {3, 67, 2}, {7, 14, 0}, {7, 15, 1},
		{10, 9, 0}, {10, 10, 1}, {10, 19, 1}, {99, 1, 0}, {100, 1, 1}, {101, 1, 1}, {199, 1, 1}, {200, 1, 2}, {199, 50, 99}, {150, 99, 148},
	} {
		mixed := append(unlike(y.n), Record{ID: -1, LBD: 100, Locked: true}, Record{ID: -2, LBD: 2}, Record{ID: -3, LBD: 100, Used: 2}, Record{ID: -4, LBD: 3, Used: 1})
		for _, l := range [][]Record{unlike(y.n), mixed} {
			like(t, fmt.Sprint(y), len(choose(t, l, 2, y.part)), y.want)
		}
	}
	for n := range 60 {
		l := unlike(n)
		all := choose(t, l, 2, 100)
		like(t, "all", len(all), n)
		for part := range 101 {
			got, e := Choose(l, 2, part)
			if e != api.OK || !slices.Equal(got, all[:n*part/100]) {
				t.Fatalf("%d of %d: %v %d", part, n, got, e)
			}
		}
	}
}

// P18.2: each word of the order comes ahead of those behind it, whatever these say, and however great the numbers are.
func TestOrder(t *testing.T) {
	numbers := sizes()
	for i, less := range numbers {
		for _, more := range numbers[i+1:] {
			low, high := int64(less), int64(more)
			inOrder(t, Record{low, less, more, 0, false}, Record{high, more, less, 1, false}, less > 6)
			inOrder(t, Record{low, less, more, 0, false}, Record{high, more, less, 0, false}, less > 2)
			inOrder(t, Record{low, 9, less, 0, false}, Record{high, 9, more, 1, false}, true)
			inOrder(t, Record{low, 3, less, 0, false}, Record{high, 3, more, 0, false}, true)
			inOrder(t, Record{low, 9, 5, more, false}, Record{high, 9, 5, less, false}, more < 2)
			inOrder(t, Record{low, 5, 5, more, false}, Record{high, 5, 5, less, false}, more < 1)
			inOrder(t, Record{high, 9, 5, 1, false}, Record{low, 9, 5, 1, false}, true)
			inOrder(t, Record{high, 4, less, 0, false}, Record{low, 4, less, 0, false}, true)
		}
	}
}

// inOrder sees that second goes ahead of first, in whichever order they are handed in; all tells whether both may go.
func inOrder(t *testing.T, second, first Record, all bool) {
	t.Helper()
	l := []Record{first, second}
	got := choose(t, l, 2, 100)
	like(t, fmt.Sprint(l), choose(t, []Record{second, first}, 2, 100), got)
	if all {
		like(t, fmt.Sprint(l), got, []int64{first.ID, second.ID})
	}
}

// P18.2: a row of records of which each goes ahead of the next by another word, in many orders.
func TestOrderInRow(t *testing.T) {
	l := []Record{
		{ID: 40, LBD: math.MaxInt, Size: math.MinInt, Used: 1},
		{ID: 39, LBD: 12, Size: math.MaxInt, Used: 1},
		{ID: 38, LBD: 12, Size: 30, Used: math.MinInt},
		{ID: math.MaxInt64, LBD: 12, Size: 30, Used: -1},
		{ID: 36, LBD: 12, Size: 30},
		{ID: 37, LBD: 12, Size: 30},
		{ID: math.MinInt64, LBD: 12, Size: 30, Used: 1},
		{ID: -5, LBD: 12, Size: 30, Used: 1},
		{ID: 0, LBD: 12, Size: 30, Used: 1},
		{ID: 35, LBD: 12, Size: 29, Used: 1},
		{ID: 34, LBD: 12, Size: -1},
		{ID: 33, LBD: 12, Size: math.MinInt},
		{ID: 32, LBD: 7, Size: 50, Used: 1},
		{ID: 31, LBD: 6, Size: 60},
		{ID: 30, LBD: 3, Size: 5},
		{ID: 41, LBD: 3, Size: 5},
		{ID: 29, LBD: 3, Size: 4, Used: -7},
	}
	others := []Record{{ID: 1, LBD: 12, Size: 30, Locked: true}, {ID: 2, LBD: 12, Size: 30, Used: 2}, {ID: 3, LBD: 2, Size: 90}, {ID: 4, LBD: 3, Size: 5, Used: 1}}
	var want []int64
	for _, r := range l {
		want = append(want, r.ID)
	}
	r := rand.New(rand.NewSource(18))
	for range 500 {
		m := shuffled(r, append(slices.Clone(l), others...))
		like(t, fmt.Sprint(m), choose(t, m, 2, 100), want)
		like(t, fmt.Sprint(m), choose(t, m, 2, 50), want[:8])
	}
}

// P18.2: records that are wholly alike, and alike but for what does not tell them apart.
func TestAlike(t *testing.T) {
	r := Record{ID: 6, LBD: 8, Size: 9, Used: 1}
	for n := range 40 {
		l := slices.Repeat([]Record{r}, n)
		like(t, "alike", choose(t, l, 2, 100), slices.Repeat([]int64{6}, n))
		like(t, "alike", choose(t, l, 2, 50), slices.Repeat([]int64{6}, n/2))
	}
	// Of one id, but for what else they tell: each by itself.
	l := []Record{{6, 8, 9, 1, false}, {6, 8, 9, 1, true}, {6, 8, 9, 2, false}, {6, 2, 9, 0, false}, {6, 7, 9, 1, false}, {5, 8, 9, 1, false}, {6, 8, 9, 0, false}}
	like(t, "one id", choose(t, l, 2, 100), []int64{6, 5, 6, 6})
}

// P18.2: ids tell nothing but themselves: any there are, each as it is.
func TestIDs(t *testing.T) {
	var l []Record
	var want []int64
	for _, id := range sizes() {
		l = append(l, Record{ID: int64(id), LBD: 9, Size: 3})
		want = append(want, int64(id))
	}
	slices.Sort(want)
	like(t, "ids", choose(t, l, 2, 100), want)
	slices.Reverse(l)
	like(t, "ids", choose(t, l, 2, 100), want)
}

// P18.3: the edges.
func TestLimit(t *testing.T) {
	for _, y := range []struct{ first, n, want int64 }{
		{1, 1, 1}, {1, 2, 3}, {1, 3, 6}, {1, 4, 10}, {1, 5, 15}, {2, 1, 2}, {2, 2, 6}, {3, 3, 18}, {7, 6, 147},
		{1000, 1, 1000}, {1000, 4, 10000}, {999999, 1, 999999}, {1000000, 1, 1000000}, {1000000, 2, 3000000},
		{1, 999999, 499999500000}, {1, 1000000, 500000500000}, {300, 1000000, 150000150000000},
		{999999, 999999, 499999000000500000}, {1000000, 1000000, 500000500000000000},
	} {
		got, e := limit(t, y.first, y.n)
		if got != y.want || e != api.OK {
			t.Errorf("%v: %d %d", y, got, e)
		}
	}
}

// P18.3: wrong ones: each by itself, and both.
func TestWrongLimit(t *testing.T) {
	for _, wrong := range wrongLimits() {
		for _, other := range append(wrongLimits(), 1, 2, 300, 999999, 1000000) {
			for _, y := range [][2]int64{{wrong, other}, {other, wrong}} {
				if got, e := limit(t, y[0], y[1]); got != 0 || e != api.ErrArg {
					t.Errorf("%v: %d %d", y, got, e)
				}
			}
		}
	}
}
