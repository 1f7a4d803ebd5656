package average

import (
	"fmt"
	"math"
	"math/big"
	"testing"

	"threshing/api"
)

// big2 is two to the k.
func big2(k int) *big.Int { return new(big.Int).Lsh(big.NewInt(1), uint(k)) }

// plainAverage is the chapter's words said plainly, in numbers of any size.
type plainAverage struct {
	shift int
	value *big.Int
	count int64
}

// plainLog is how many bits n has, less 1, by halving.
func plainLog(n int64) int {
	log := 0
	for n > 1 {
		n /= 2
		log++
	}
	return log
}

func (p *plainAverage) add(x int64) api.Errno {
	if x < 0 || big.NewInt(x).Cmp(big2(30)) > 0 {
		return 2
	}
	p.count++
	s := plainLog(p.count)
	if p.shift < s {
		s = p.shift
	}
	d := new(big.Int).Mul(big.NewInt(x), big2(32))
	d.Sub(d, p.value)
	part, rest := new(big.Int).QuoRem(d, big2(s), new(big.Int))
	if rest.Sign() < 0 { // which was rounded toward 0
		part.Sub(part, big.NewInt(1))
	}
	p.value.Add(p.value, part)
	return 0
}

// plainAbove is that of two values.
func plainAbove(fast, slow *big.Int, margin int) bool {
	if margin < 0 || margin > 10000 {
		return false
	}
	a := new(big.Int).Mul(fast, big.NewInt(100))
	b := new(big.Int).Mul(slow, big.NewInt(int64(margin)))
	return a.Cmp(b) > 0
}

// plainLuby is the row's i-th number, as the chapter has it: by going through the powers of two.
func plainLuby(i *big.Int) *big.Int {
	for k := 1; ; k++ {
		if new(big.Int).Sub(big2(k), big.NewInt(1)).Cmp(i) == 0 {
			return big2(k - 1)
		}
		if big2(k-1).Cmp(i) <= 0 && i.Cmp(big2(k)) < 0 {
			at := new(big.Int).Sub(i, big2(k-1))
			return plainLuby(at.Add(at, big.NewInt(1)))
		}
	}
}

// plainBell counts calls.
type plainBell struct{ period, round, count int64 }

func (p *plainBell) tick() bool {
	p.count++
	if p.count != p.period*plainLuby(big.NewInt(p.round)).Int64() {
		return false
	}
	p.count = 0
	p.round++
	return true
}

// pair is an average beside a plain one: what is called is called of both, and must be answered alike.
type pair struct {
	t *testing.T
	a *Average
	p *plainAverage
}

func newPair(t *testing.T, shift int) *pair {
	t.Helper()
	a, e := New(shift)
	if e != api.OK || a == nil {
		t.Fatalf("New(%d): %d", shift, e)
	}
	return &pair{t, a, &plainAverage{shift: shift, value: new(big.Int)}}
}

// like holds one answer against another, as they are written.
func like(t *testing.T, call string, got, want any) {
	t.Helper()
	if g, w := fmt.Sprint(got), fmt.Sprint(want); g != w {
		t.Fatalf("%s: %s, want %s", call, g, w)
	}
}

// add takes these in, one behind the other, holds what is told behind each, and tells the last one's error.
func (x *pair) add(numbers ...int64) api.Errno {
	x.t.Helper()
	var last api.Errno
	for _, n := range numbers {
		last = x.a.Add(n)
		if e := x.p.add(n); last != e {
			x.t.Fatalf("Add(%d): %d, want %d", n, last, e)
		}
		x.agree()
	}
	return last
}

// agree holds value and count against what the plain one has.
func (x *pair) agree() {
	x.t.Helper()
	if big.NewInt(x.a.Value()).Cmp(x.p.value) != 0 || x.a.Count() != x.p.count {
		x.t.Fatalf("value %d of %d, want %d of %d", x.a.Value(), x.a.Count(), x.p.value, x.p.count)
	}
}

// above asks of both, and of both the other way round.
func (x *pair) above(y *pair, margin int) bool {
	x.t.Helper()
	got := Above(x.a, y.a, margin)
	if want := plainAbove(x.p.value, y.p.value, margin); got != want {
		x.t.Fatalf("Above of %d and %d with %d: %v", x.p.value, y.p.value, margin, got)
	}
	if want := plainAbove(y.p.value, x.p.value, margin); Above(y.a, x.a, margin) != want {
		x.t.Fatalf("Above of %d and %d with %d: %v", y.p.value, x.p.value, margin, !want)
	}
	return got
}

// tower is a bell beside a plain one.
type tower struct {
	t *testing.T
	b *Bell
	p *plainBell
}

func newTower(t *testing.T, period int64) *tower {
	t.Helper()
	b, e := NewBell(period)
	if e != api.OK || b == nil {
		t.Fatalf("NewBell(%d): %d", period, e)
	}
	return &tower{t, b, &plainBell{period: period, round: 1}}
}

func (x *tower) tick() bool {
	x.t.Helper()
	got := x.b.Tick()
	if want := x.p.tick(); got != want || x.b.Round() != x.p.round {
		x.t.Fatalf("a bell of %d: %v, round %d, want %v, round %d", x.p.period, got, x.b.Round(), want, x.p.round)
	}
	return got
}

// rings are the calls, of so many, at which it rings.
func (x *tower) rings(calls int) []int {
	x.t.Helper()
	var at []int
	for i := range calls {
		if x.tick() {
			at = append(at, i+1)
		}
	}
	return at
}

// most is the greatest number that is taken in.
const most = 1 << 30

// wrongNumbers are not taken in: those below 0, those past the greatest, and those that are right by their lower bits.
func wrongNumbers() []int64 {
	return []int64{math.MinInt64, math.MinInt64 + 1, math.MinInt64 + 5, -1 << 62, -1 << 32, -1<<32 + 5, math.MinInt32, -most - 1, -most, -2, -1, most + 1, most + 2, math.MaxInt32, 1 << 31, 1 << 32, 1<<32 + 1, 1<<32 + most, 1 << 62, math.MaxInt64 - 1, math.MaxInt64}
}

// wrongMargins are those outside of 0 to 10000.
func wrongMargins() []int {
	return []int{math.MinInt, math.MinInt + 1, math.MinInt + 100, -1 << 32, -1<<32 + 100, math.MinInt32, -10000, -100, -2, -1, 10001, 10002, math.MaxInt32, 1 << 31, 1 << 32, 1<<32 + 1, 1<<32 + 100, 1 << 62, math.MaxInt - 1, math.MaxInt}
}

// row is so many numbers of it.
func row(n int) []int64 {
	var all []int64
	if n == 0 {
		return nil
	}
	for x := range Row() {
		all = append(all, x)
		if len(all) == n {
			break
		}
	}
	return all
}

// telling tells what calls answered, one behind the other.
func telling(answers ...any) string { return fmt.Sprintln(answers...) }

func luby(i int64) string {
	n, e := Luby(i)
	return fmt.Sprint(n, " ", int(e))
}
