package reduce

import (
	"fmt"
	"math"
	"math/big"
	"math/rand"
	"slices"
	"testing"

	"threshing/api"
)

// plainTier is the chapter's words said plainly, in numbers of any size.
func plainTier(r Record, glue int) int {
	g := big.NewInt(int64(glue))
	if g.Sign() < 0 {
		g = big.NewInt(0)
	}
	if g.Cmp(big.NewInt(65535)) > 0 {
		g = big.NewInt(65535)
	}
	lbd := big.NewInt(int64(r.LBD))
	if lbd.Cmp(g) <= 0 {
		return 1
	}
	g.Add(g, big.NewInt(4))
	if lbd.Cmp(g) <= 0 {
		return 2
	}
	return 3
}

func plainMayGo(r Record, glue int) bool {
	unused, lessThanTwice := r.Used <= 0, r.Used <= 1
	tier := plainTier(r, glue)
	return !r.Locked && (tier == 2 && unused || tier == 3 && lessThanTwice)
}

// plainAhead tells whether a goes ahead of b, word by word.
func plainAhead(a, b Record) bool {
	if a.LBD != b.LBD {
		return a.LBD > b.LBD
	}
	if a.Size != b.Size {
		return a.Size > b.Size
	}
	if a.Used != b.Used {
		return a.Used < b.Used
	}
	return a.ID < b.ID
}

// plainChoose takes the one that goes first of those that are left, one by one, while 100 times what was taken is not above the number times part.
func plainChoose(l []Record, glue, part int) ([]int64, api.Errno) {
	if part < 0 || part > 100 {
		return nil, 2
	}
	var left []Record
	for _, r := range l {
		if plainMayGo(r, glue) {
			left = append(left, r)
		}
	}
	n := len(left)
	var all []int64
	for 100*(len(all)+1) <= n*part {
		first := 0
		for i, r := range left {
			if plainAhead(r, left[first]) {
				first = i
			}
		}
		all = append(all, left[first].ID)
		left = slices.Delete(left, first, first+1)
	}
	return all, 0
}

// plainLimit adds up 1 to n, first times each, in numbers of any size.
func plainLimit(first, n int64) (*big.Int, api.Errno) {
	if first < 1 || first > 1000000 || n < 1 || n > 1000000 {
		return new(big.Int), 2
	}
	x := new(big.Int).Mul(big.NewInt(n), new(big.Int).Add(big.NewInt(n), big.NewInt(1)))
	x.Mul(x, big.NewInt(first))
	half, rest := new(big.Int).QuoRem(x, big.NewInt(2), new(big.Int))
	if rest.Sign() != 0 {
		panic("no whole number")
	}
	return half, 0
}

// choose asks, holds the answer against the plain one, and sees that what was handed in is as it was.
func choose(t *testing.T, l []Record, glue, part int) []int64 {
	t.Helper()
	was := slices.Clone(l)
	got, e := Choose(l, glue, part)
	if !slices.Equal(l, was) {
		t.Fatalf("%v, was %v", l, was)
	}
	if want, f := plainChoose(l, glue, part); !slices.Equal(got, want) || e != f {
		t.Fatalf("Choose(%v, %d, %d): %v %d, want %v %d", l, glue, part, got, e, want, f)
	}
	return got
}

// tier asks, and holds the answer against the plain one.
func tier(t *testing.T, r Record, glue int) int {
	t.Helper()
	got := Tier(r, glue)
	if want := plainTier(r, glue); got != want {
		t.Fatalf("Tier(%v, %d): %d, want %d", r, glue, got, want)
	}
	return got
}

// limit asks, and holds the answer against the plain one.
func limit(t *testing.T, first, n int64) (int64, api.Errno) {
	t.Helper()
	got, e := Limit(first, n)
	if want, f := plainLimit(first, n); big.NewInt(got).Cmp(want) != 0 || e != f {
		t.Fatalf("Limit(%d, %d): %d %d, want %d %d", first, n, got, e, want, f)
	}
	return got, e
}

// like holds one answer against another, as they are written.
func like(t *testing.T, call string, got, want any) {
	t.Helper()
	if g, w := fmt.Sprint(got), fmt.Sprint(want); g != w {
		t.Fatalf("%s: %s, want %s", call, g, w)
	}
}

// sizes are numbers of any size; their lower bits alone would make other numbers of some.
func sizes() []int {
	return []int{math.MinInt, math.MinInt + 1, math.MinInt + 2, -1 << 62, -1<<32 - 1, -1 << 32, -1<<32 + 1, math.MinInt32, -65536, -65535, -256, -128, -5, -4, -3, -2, -1, 0, 1, 2, 3, 4, 5, 6, 7, 127, 128, 255, 256, 65534, 65535, 65536, 65538, 65539, 65540, 65541, math.MaxInt32, 1 << 31, 1<<32 - 1, 1 << 32, 1<<32 + 1, 1<<32 + 2, 1 << 62, math.MaxInt - 5, math.MaxInt - 4, math.MaxInt - 3, math.MaxInt - 1, math.MaxInt}
}

// wrongParts are those outside of 0 to 100.
func wrongParts() []int {
	return []int{math.MinInt, math.MinInt + 1, math.MinInt + 50, -1 << 32, -1<<32 + 50, math.MinInt32, -256 + 50, -101, -100, -50, -2, -1, 101, 102, 150, 200, 256, 256 + 50, 65536 + 50, math.MaxInt32, 1 << 31, 1 << 32, 1<<32 + 50, 1<<32 + 100, 1 << 62, math.MaxInt - 1, math.MaxInt}
}

// wrongLimits are those outside of 1 to 1000000.
func wrongLimits() []int64 {
	return []int64{math.MinInt64, math.MinInt64 + 1, math.MinInt64 + 300, -1 << 32, -1<<32 + 300, math.MinInt32, -1000001, -1000000, -300, -2, -1, 0, 1000001, 1000002, 2000000, math.MaxInt32, 1 << 31, 1 << 32, 1<<32 + 1, 1<<32 + 300, 1 << 62, math.MaxInt64 - 1, math.MaxInt64}
}

// shuffled is a row in another order.
func shuffled(r *rand.Rand, l []Record) []Record {
	m := slices.Clone(l)
	r.Shuffle(len(m), func(i, j int) { m[i], m[j] = m[j], m[i] })
	return m
}

// unlike is so many records that may all go with glue 2, no two of one id.
func unlike(n int) []Record {
	var l []Record
	for i := range n {
		l = append(l, Record{ID: int64(i + 1), LBD: 7 + i%5, Size: 8 + i%3, Used: i % 2})
	}
	return l
}
