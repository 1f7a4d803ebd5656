package reduce

import (
	"cmp"
	"fmt"
	"math"
	"math/rand"
	"slices"
	"sort"
	"testing"

	"threshing/api"
)

// small are records of few numbers, of each tier, use and lock.
func small() []Record {
	var l []Record
	for lbd := 1; lbd <= 7; lbd += 2 { // with glue 2 of tiers 1, 2, 2, 3; with 1 of 1, 2, 2, 3; with 0 of 2, 2, 3, 3
		for used := range 3 {
			for id := range 2 {
				l = append(l, Record{ID: int64(id), LBD: lbd, Size: 4 + used%2, Used: used})
			}
		}
		l = append(l, Record{ID: 1, LBD: lbd, Size: 3}, Record{ID: 2, LBD: lbd, Size: 3, Locked: true})
	}
	return l
}

// P18.2: all rows of up to three of these, in any order, the same one more than once too.
func TestAllRows(t *testing.T) {
	records := small()
	rows := 0
	var longer func(l []Record)
	longer = func(l []Record) {
		rows++
		for glue := range 3 {
			for _, part := range []int{0, 33, 34, 50, 67, 99, 100} {
				choose(t, l, glue, part)
			}
		}
		if len(l) == 3 {
			return
		}
		for _, r := range records {
			longer(append(slices.Clone(l), r))
		}
	}
	longer(nil)
	n := len(records)
	like(t, "rows", rows, 1+n+n*n+n*n*n)
}

// drawnNumber is mostly a small one.
func drawnNumber(r *rand.Rand, most int) int {
	if r.Intn(30) == 0 {
		s := sizes()
		return s[r.Intn(len(s))]
	}
	return r.Intn(most)
}

// drawnRow is so many records, about a fourth of which are alike in some words with the one ahead.
func drawnRow(r *rand.Rand, n int) []Record {
	l := make([]Record, n)
	for i := range l {
		l[i] = Record{ID: int64(drawnNumber(r, 1000)), LBD: drawnNumber(r, 14), Size: drawnNumber(r, 6), Used: drawnNumber(r, 4), Locked: r.Intn(8) == 0}
		if i == 0 || r.Intn(4) > 0 {
			continue
		}
		was := l[i-1]
		l[i].LBD = was.LBD
		if r.Intn(3) > 0 {
			l[i].Size = was.Size
		}
		if r.Intn(3) > 0 {
			l[i].Used = was.Used
		}
		if r.Intn(6) == 0 {
			l[i] = was
		}
	}
	return l
}

// P18.2: drawn rows, with any glue and part.
func TestDrawn(t *testing.T) {
	told := map[string]int{}
	for seed := range 4000 {
		r := rand.New(rand.NewSource(int64(seed)))
		l := drawnRow(r, r.Intn(1+r.Intn(70)))
		glue, part := drawnNumber(r, 8), r.Intn(101)
		if r.Intn(10) == 0 {
			part = wrongParts()[r.Intn(len(wrongParts()))]
		}
		got := choose(t, l, glue, part)
		_, e := Choose(l, glue, part)
		told[fmt.Sprint(int(e), len(got) > 0)]++
		if e == api.OK {
			isChosen(t, l, got, glue)
		}
	}
	for _, want := range []string{"0 true", "0 false", "2 false"} {
		if told[want] < 200 {
			t.Errorf("%s: %d", want, told[want])
		}
		delete(told, want)
	}
	like(t, "others", len(told), 0)
}

// isChosen sees of what goes that none is of tier 1, and none locked: there are as many records of each id that may go, at least.
func isChosen(t *testing.T, l []Record, got []int64, glue int) {
	t.Helper()
	may := map[int64]int{}
	for _, r := range l {
		if Tier(r, glue) != 1 && !r.Locked && r.Used < 2 {
			may[r.ID]++
		}
	}
	for _, id := range got {
		if may[id]--; may[id] < 0 {
			t.Fatalf("%d of %v, of which go %v", id, l, got)
		}
	}
}

// P18.5: of records no two of which are of one id, what goes is no part of tier 1, not locked, each id once.
func TestEachOnce(t *testing.T) {
	gone := 0
	for seed := range 800 {
		r := rand.New(rand.NewSource(int64(1800 + seed)))
		l := drawnRow(r, 1+r.Intn(90))
		for i, id := range r.Perm(len(l)) {
			l[i].ID = int64(id - len(l)/2)
		}
		glue, part := drawnNumber(r, 8), r.Intn(101)
		got := choose(t, l, glue, part)
		seen := map[int64]int{}
		for _, id := range got {
			seen[id]++
			at := slices.IndexFunc(l, func(x Record) bool { return x.ID == id })
			if at < 0 || Tier(l[at], glue) == 1 || l[at].Locked || seen[id] > 1 {
				t.Fatalf("%d goes of %v by %d", id, l, glue)
			}
		}
		gone += len(got)
	}
	if gone < 3000 {
		t.Error(gone)
	}
}

// P18.2: in whichever order the records stand, the same goes; and of a part that is less, the first ones of the same.
func TestAnyOrder(t *testing.T) {
	for seed := range 300 {
		r := rand.New(rand.NewSource(int64(600 + seed)))
		l := drawnRow(r, 1+r.Intn(60))
		glue := r.Intn(6)
		all := choose(t, l, glue, 100)
		was := 0
		for part := range 101 {
			got, e := Choose(shuffled(r, l), glue, part)
			if e != api.OK || len(got) > len(all) || len(got) < was || !slices.Equal(got, all[:len(got)]) {
				t.Fatalf("%d: %v, of %v", part, got, all)
			}
			was = len(got)
		}
		like(t, "at 100", was, len(all))
	}
}

// P18.2: what goes with a glue that is greater goes with one that is less, when all go.
func TestGreaterGlue(t *testing.T) {
	for seed := range 200 {
		r := rand.New(rand.NewSource(int64(90 + seed)))
		l := drawnRow(r, 40)
		for i := range l {
			l[i].ID = int64(i)
		}
		was := choose(t, l, 0, 100)
		for glue := 1; glue < 20; glue++ {
			got := choose(t, l, glue, 100)
			for _, id := range got {
				if !slices.Contains(was, id) {
					t.Fatalf("%d goes by %d of %v", id, glue, l)
				}
			}
			was = got
		}
	}
}

// inRow is the ids of those that may go, put in order word by word by another way of sorting.
func inRow(l []Record, glue int) []int64 {
	var may []Record
	for _, r := range l {
		if plainMayGo(r, glue) {
			may = append(may, r)
		}
	}
	sort.SliceStable(may, func(i, j int) bool { return plainAhead(may[i], may[j]) })
	var all []int64
	for _, r := range may {
		all = append(all, r.ID)
	}
	return all
}

// P18.2: long rows: drawn, in order, the other way round, of few kinds, all alike.
func TestLongRows(t *testing.T) {
	const n = 200001
	r := rand.New(rand.NewSource(5))
	drawn := make([]Record, n)
	for i := range drawn {
		drawn[i] = Record{ID: int64(i) * 7919 % n, LBD: r.Intn(50), Size: 2 + r.Intn(200), Used: r.Intn(3), Locked: r.Intn(50) == 0}
	}
	up, few, alike := slices.Clone(drawn), slices.Clone(drawn), slices.Repeat(drawn[:1], n)
	slices.SortFunc(up, func(a, b Record) int { return cmp.Compare(a.LBD, b.LBD) })
	down := slices.Clone(up)
	slices.Reverse(down)
	for i := range few {
		few[i].LBD, few[i].Size, few[i].Used = 10+i%3, 4, 0
	}
	alike[0] = Record{ID: 3, LBD: 9, Size: 3}
	for i := range alike {
		alike[i] = alike[0]
	}
	for kind, l := range [][]Record{drawn, up, down, few, alike} {
		was := slices.Clone(l)
		want := inRow(l, 2)
		for _, part := range []int{0, 1, 33, 50, 99, 100} {
			got, e := Choose(l, 2, part)
			if e != api.OK || !slices.Equal(got, want[:len(want)*part/100]) {
				t.Fatalf("kind %d, part %d: %d of %d, %d", kind, part, len(got), len(want), e)
			}
		}
		if !slices.Equal(l, was) {
			t.Fatalf("kind %d is changed", kind)
		}
		if len(want) < n/3 {
			t.Fatalf("kind %d: %d", kind, len(want))
		}
	}
}

// P18.3, P18.5: all limits of some firsts: they rise, and so do the steps between them, by first each time.
func TestAllLimits(t *testing.T) {
	for _, first := range []int64{1, 2, 3, 300, 1000, 123457, 999999, 1000000} {
		last, step := int64(0), int64(0)
		for n := int64(1); n <= 1000000; n++ {
			x, e := Limit(first, n)
			if e != api.OK || x <= last || x-last <= step || x-last != first*n {
				t.Fatalf("Limit(%d, %d): %d %d, behind %d", first, n, x, e, last)
			}
			last, step = x, x-last
		}
		if _, e := Limit(first, 1000001); e != api.ErrArg {
			t.Fatal(first, e)
		}
	}
}

// P18.3, P18.5: all firsts of some limits: the greater the first, the greater the limit.
func TestAllFirsts(t *testing.T) {
	for _, n := range []int64{1, 2, 3, 300, 99999, 1000000} {
		last := int64(0)
		for first := int64(1); first <= 1000000; first++ {
			x, e := Limit(first, n)
			if e != api.OK || x-last != n*(n+1)/2 {
				t.Fatalf("Limit(%d, %d): %d %d, behind %d", first, n, x, e, last)
			}
			last = x
		}
	}
}

// P18.3: drawn ones of any size, within the bounds and outside of them.
func TestDrawnLimits(t *testing.T) {
	told := map[api.Errno]int{}
	r := rand.New(rand.NewSource(3))
	draw := func() int64 {
		switch r.Intn(8) {
		case 0:
			return int64(r.Uint64())
		case 1:
			return 1000000 - 3 + r.Int63n(7)
		case 2:
			return r.Int63n(5) - 2
		}
		return 1 + r.Int63n(1000000)>>r.Intn(20)
	}
	for range 100000 {
		_, e := limit(t, draw(), draw())
		told[e]++
	}
	if len(told) != 2 || told[api.OK] < 10000 || told[api.ErrArg] < 10000 {
		t.Error(told)
	}
}

// recordsOf reads records out of bytes, five for each; great bytes are numbers of any size.
func recordsOf(bytes []byte) []Record {
	s := sizes()
	number := func(b byte) int {
		if b >= 192 {
			return s[int(b-192)%len(s)]
		}
		return int(b % 32)
	}
	var l []Record
	for len(bytes) >= 5 && len(l) < 200 {
		l = append(l, Record{int64(number(bytes[0])), number(bytes[1]), number(bytes[2]), number(bytes[3]) / 8, bytes[4]%8 == 7})
		bytes = bytes[5:]
	}
	return l
}

// Whatever is called, both agree.
func FuzzReduce(f *testing.F) {
	f.Add(2, 50, int64(300), int64(7), []byte{1, 9, 4, 0, 0, 2, 9, 4, 0, 0, 3, 9, 5, 8, 0})
	f.Add(-1, 100, int64(0), int64(1), []byte{200, 201, 202, 203, 0, 255, 254, 253, 252, 0, 7, 7, 7, 7, 7})
	f.Add(math.MaxInt, 101, int64(1000000), int64(1000001), []byte{})
	f.Fuzz(func(t *testing.T, glue, part int, first, n int64, bytes []byte) {
		l := recordsOf(bytes)
		choose(t, l, glue, part)
		for _, r := range l {
			tier(t, r, glue)
		}
		isChosen(t, l, choose(t, l, glue, 100), glue)
		choose(t, l, int(uint(glue)%10), int(uint(part)%101))
		limit(t, first, n)
		limit(t, 1+int64(uint64(first)%1000000), 1+int64(uint64(n)%1000000))
	})
}
