package binary

import (
	"bytes"
	"math"
	"math/big"
	"math/rand"
	"slices"
	"testing"

	"threshing/api"
)

// added is the step by which a clause comes in.
func added(id int64, lits api.Clause, hints ...int64) api.Step {
	return api.Step{Kind: api.SAdd, ID: id, Lits: lits, Hints: hints}
}

// gone is the step by which clauses go.
func gone(id int64, hints ...int64) api.Step {
	return api.Step{Kind: api.SDel, ID: id, Hints: hints}
}

func sameStep(a, b api.Step) bool {
	return a.Kind == b.Kind && a.ID == b.ID && slices.Equal(a.Lits, b.Lits) && slices.Equal(a.Hints, b.Hints)
}

// cloned tells the same steps in memory of their own.
func cloned(l []api.Step) []api.Step {
	m := slices.Clone(l)
	for i, s := range m {
		m[i].Lits, m[i].Hints = slices.Clone(s.Lits), slices.Clone(s.Hints)
	}
	return m
}

// plainNumber tells a number's bytes as the chapter says it: the code's digits to the base 128, the lowest one first.
func plainNumber(n int64) []byte {
	code := new(big.Int).Mul(big.NewInt(2), new(big.Int).Abs(big.NewInt(n)))
	if n < 0 {
		code.Add(code, big.NewInt(1))
	}
	var b []byte
	for base := big.NewInt(128); len(b) == 0 || code.Sign() > 0; {
		digit := new(big.Int)
		code.DivMod(code, base, digit)
		b = append(b, byte(digit.Int64()))
	}
	for i := range len(b) - 1 {
		b[i] += 128
	}
	return b
}

// plainStepBytes tells a step's bytes as the chapter says it.
func plainStepBytes(s api.Step) []byte {
	numbers := []int64{s.ID}
	b := []byte{100}
	if s.Kind == api.SAdd {
		b[0] = 97
		for _, l := range s.Lits {
			numbers = append(numbers, int64(l))
		}
		numbers = append(numbers, 0)
	}
	for _, n := range append(append(numbers, s.Hints...), 0) {
		b = append(b, plainNumber(n)...)
	}
	return b
}

// plainBytes tells the bytes of steps, one behind the other.
func plainBytes(l []api.Step) []byte {
	var b []byte
	for _, s := range l {
		b = append(b, plainStepBytes(s)...)
	}
	return b
}

// writes asks that Write of l is b.
func writes(t *testing.T, l []api.Step, b ...byte) {
	t.Helper()
	if got, e := Write(l); e != api.OK || !bytes.Equal(got, b) {
		t.Errorf("Write(%v) = %v, %d, want %v", l, got, e, b)
	}
}

// cannotWrite asks that Write of l is this error, and no bytes.
func cannotWrite(t *testing.T, what string, l []api.Step, e api.Errno) {
	t.Helper()
	if b, got := Write(l); got != e || len(b) != 0 {
		t.Errorf("Write: %s: %d bytes, %d, want %d", what, len(b), got, e)
	}
}

// stepOf draws a step that may be, with the ends of what may be among its numbers, and numbers of all lengths.
func stepOf(r *rand.Rand) api.Step {
	row := func(most int64, signed bool) []int64 {
		l := make([]int64, r.Intn(5))
		for i := range l {
			l[i] = []int64{1 + r.Int63n(130), 1 + r.Int63n(most), 1 + r.Int63n(most)>>r.Intn(62), most}[r.Intn(4)]
			if signed && r.Intn(2) == 0 {
				l[i] = -l[i]
			}
		}
		return l
	}
	id := []int64{1, 1 + r.Int63n(130), 1 + r.Int63n(api.MaxID)>>r.Intn(62), api.MaxID}[r.Intn(4)]
	if r.Intn(3) == 0 {
		return gone(id*int64(r.Intn(2)), row(api.MaxID, false)...)
	}
	var c api.Clause
	for _, n := range row(api.MaxVar, true) {
		c = append(c, api.Lit(n))
	}
	return added(id, c, row(api.MaxID, true)...)
}

// stepsOf draws up to most steps that may be.
func stepsOf(r *rand.Rand, most int) []api.Step {
	l := make([]api.Step, r.Intn(most+1))
	for i := range l {
		l[i] = stepOf(r)
	}
	return l
}

// ones is a row of n numbers 1.
func ones[N api.Lit | int64](n int) []N {
	row := make([]N, n)
	for i := range row {
		row[i] = 1
	}
	return row
}

func TestWriteExamples(t *testing.T) {
	writes(t, []api.Step{added(9, api.Clause{1, -2}, 3, 4)}, 97, 18, 2, 5, 0, 6, 8, 0)
	writes(t, []api.Step{gone(64, 3)}, 100, 128, 1, 6, 0)
	writes(t, []api.Step{added(1, nil, -1)}, 97, 2, 0, 3, 0)
}

func TestWrite(t *testing.T) {
	writes(t, nil)
	writes(t, []api.Step{})
	writes(t, []api.Step{added(1, nil)}, 97, 2, 0, 0)
	writes(t, []api.Step{{Kind: api.SAdd, ID: 1, Lits: api.Clause{}, Hints: []int64{}}}, 97, 2, 0, 0)
	writes(t, []api.Step{{Kind: api.SDel, ID: 1, Lits: api.Clause{}, Hints: []int64{}}}, 100, 2, 0)
	writes(t, []api.Step{gone(0)}, 100, 0, 0)
	writes(t, []api.Step{gone(0, 5)}, 100, 0, 10, 0)
	writes(t, []api.Step{added(5, api.Clause{3, 3, -3})}, 97, 10, 6, 6, 7, 0, 0)
	writes(t, []api.Step{added(5, nil, 5, 5, -5)}, 97, 10, 0, 10, 10, 11, 0)
	writes(t, []api.Step{gone(7, 7, 7, 100)}, 100, 14, 14, 14, 200, 1, 0)
	// No order of ids is asked for here.
	writes(t, []api.Step{added(20, api.Clause{10}), added(3, nil, 20), gone(2)}, 97, 40, 20, 0, 0, 97, 6, 0, 40, 0, 100, 4, 0)
}

// Numbers at which one byte more is wanted.
func TestWriteLengths(t *testing.T) {
	writes(t, []api.Step{added(63, api.Clause{63, -63, 64, -64}, 63, -63, 64, -64)},
		97, 126, 126, 127, 128, 1, 129, 1, 0, 126, 127, 128, 1, 129, 1, 0)
	writes(t, []api.Step{added(8191, api.Clause{8191, -8191, 8192, -8192})},
		97, 254, 127, 254, 127, 255, 127, 128, 128, 1, 129, 128, 1, 0, 0)
	writes(t, []api.Step{gone(1<<20-1, 1<<20, 1<<55-1, 1<<55)},
		100, 254, 255, 127, 128, 128, 128, 1, 254, 255, 255, 255, 255, 255, 255, 127, 128, 128, 128, 128, 128, 128, 128, 128, 1, 0)
}

func TestWriteBounds(t *testing.T) {
	writes(t, []api.Step{added(api.MaxID, api.Clause{api.MaxVar, -api.MaxVar, 1, -1}, api.MaxID, -api.MaxID, 1, -1)},
		97, 254, 255, 255, 255, 255, 255, 255, 255, 127,
		128, 128, 128, 1, 129, 128, 128, 1, 2, 3, 0,
		254, 255, 255, 255, 255, 255, 255, 255, 127, 255, 255, 255, 255, 255, 255, 255, 255, 127, 2, 3, 0)
	writes(t, []api.Step{gone(api.MaxID, api.MaxID, 1)},
		100, 254, 255, 255, 255, 255, 255, 255, 255, 127, 254, 255, 255, 255, 255, 255, 255, 255, 127, 2, 0)
}

// wrongSteps are steps that may not be, by what is wrong.
func wrongSteps() map[string]api.Step {
	return map[string]api.Step{
		"no kind":                             {ID: 1},
		"no kind at all, and nothing else":    {},
		"a kind past the last":                {Kind: 3, ID: 1},
		"the greatest kind":                   {Kind: 255, ID: 1, Hints: []int64{1}},
		"a byte as kind":                      {Kind: 97, ID: 1},
		"another byte as kind":                {Kind: 100, ID: 1},
		"id 0":                                added(0, api.Clause{1}),
		"id -1":                               added(-1, nil),
		"id one too great":                    added(api.MaxID+1, nil),
		"the greatest number as id":           added(math.MaxInt64, nil),
		"the least number as id":              added(math.MinInt64, nil),
		"literal 0":                           added(1, api.Clause{1, 0, 2}),
		"a literal one too great":             added(1, api.Clause{api.MaxVar + 1}),
		"its negation":                        added(1, api.Clause{-api.MaxVar - 1}),
		"the greatest literal":                added(1, api.Clause{1, math.MaxInt32}),
		"the least literal":                   added(1, api.Clause{math.MinInt32}),
		"hint 0":                              added(1, nil, 1, 0, 2),
		"a hint one too great":                added(1, nil, api.MaxID+1),
		"a hint one too small":                added(1, nil, -api.MaxID-1),
		"the greatest hint":                   added(1, nil, 1, math.MaxInt64),
		"the least hint":                      added(1, nil, math.MinInt64),
		"deleted, id -1":                      gone(-1),
		"deleted, id one too great":           gone(api.MaxID+1, 1),
		"deleted, the greatest number as id":  gone(math.MaxInt64),
		"deleted, the least number as id":     gone(math.MinInt64),
		"deleted, with a literal":             {Kind: api.SDel, ID: 1, Lits: api.Clause{1}, Hints: []int64{1}},
		"deleted, with a literal and no hint": {Kind: api.SDel, ID: 1, Lits: api.Clause{1}},
		"deleted, hint 0":                     gone(1, 1, 0),
		"deleted, hint -1":                    gone(1, 1, -1),
		"deleted, a hint one too great":       gone(1, api.MaxID+1),
		"deleted, the least hint":             gone(1, math.MinInt64),
	}
}

func TestWriteErrors(t *testing.T) {
	for what, s := range wrongSteps() {
		cannotWrite(t, what, []api.Step{s}, api.ErrByte)
		cannotWrite(t, what+", ahead of others", []api.Step{s, added(1, nil), gone(0)}, api.ErrByte)
		cannotWrite(t, what+", behind others", []api.Step{added(1, nil), gone(0), s}, api.ErrByte)
	}
}

func TestWriteLimits(t *testing.T) {
	many := make([]api.Step, api.MaxSteps+1)
	for i := range many {
		many[i] = gone(0)
	}
	if b, e := Write(many[:api.MaxSteps]); e != api.OK || !bytes.Equal(b, bytes.Repeat([]byte{100, 0, 0}, api.MaxSteps)) {
		t.Errorf("as many steps as may be: %d bytes, %d", len(b), e)
	}
	cannotWrite(t, "one step too many", many, api.ErrLimit)
	many[0] = api.Step{}
	cannotWrite(t, "one step too many, one of them wrong", many, api.ErrLimit)
	many[0], many[api.MaxSteps] = gone(0), api.Step{}
	cannotWrite(t, "one step too many, the last one wrong", many, api.ErrLimit)
	cannotWrite(t, "as many steps as may be, the last one wrong", many[1:], api.ErrByte)
}

func TestWriteItemLimits(t *testing.T) {
	const half = api.MaxLits / 2
	lits, hints := ones[api.Lit](api.MaxLits+1), ones[int64](api.MaxLits+1)
	most := []api.Step{added(1, lits[:half], hints[:half-2]...), gone(2, 1), added(3, lits[:1])}
	if b, e := Write(most); e != api.OK || !bytes.Equal(b, mostItems()) {
		t.Errorf("as many literals and hints as may be: %d bytes, %d", len(b), e)
	}
	cannotWrite(t, "one hint more", append(slices.Clone(most), added(4, nil, 1)), api.ErrLimit)
	cannotWrite(t, "one literal more", append(slices.Clone(most), added(4, lits[:1])), api.ErrLimit)
	cannotWrite(t, "one deleted clause more", append(slices.Clone(most), gone(4, 1)), api.ErrLimit)
	cannotWrite(t, "one literal too many", []api.Step{added(1, lits)}, api.ErrLimit)
	cannotWrite(t, "one hint too many", []api.Step{added(1, nil, hints...)}, api.ErrLimit)
	cannotWrite(t, "one deleted clause too many", []api.Step{gone(1, hints...)}, api.ErrLimit)
	cannotWrite(t, "one too many, with a wrong step ahead", []api.Step{{}, added(1, lits)}, api.ErrLimit)
	cannotWrite(t, "one too many of a wrong step", []api.Step{{Kind: api.SDel, Lits: lits}}, api.ErrLimit)
	cannotWrite(t, "the literals of a wrong step count", []api.Step{{Lits: lits[:1]}, added(1, nil, hints[1:]...)}, api.ErrLimit)
	cannotWrite(t, "as many as may be, one wrong", []api.Step{{Lits: lits[:1]}, added(1, nil, hints[2:]...)}, api.ErrByte)
}

// mostItems are the bytes of three steps that have as many literals and hints together as may be.
func mostItems() []byte {
	const half = api.MaxLits / 2
	return slices.Concat([]byte{97, 2}, bytes.Repeat([]byte{2}, half), []byte{0}, bytes.Repeat([]byte{2}, half-2), []byte{0, 100, 4, 2, 0, 97, 6, 2, 0, 0})
}

// Each step's row is as long as may be, and all together are far past the limit.
func TestWriteManyLong(t *testing.T) {
	row := ones[int64](api.MaxLits)
	l := make([]api.Step, 1000)
	for i := range l {
		l[i] = gone(1, row...)
	}
	cannotWrite(t, "many long steps", l, api.ErrLimit)
}

func TestWriteDrawn(t *testing.T) {
	r := rand.New(rand.NewSource(51))
	for range 20000 {
		l := stepsOf(r, 6)
		writes(t, l, plainBytes(l)...)
	}
}

// P5.3 of Write: neither what is in the lists nor what lies behind their length is written over.
func TestWriteOnlyReads(t *testing.T) {
	r := rand.New(rand.NewSource(52))
	for range 2000 {
		l := stepsOf(r, 6)
		if r.Intn(3) == 0 {
			for _, s := range wrongSteps() {
				l = append(l, s)
				break
			}
		}
		room := append(slices.Clone(l), added(77, api.Clause{7}, 7))
		for i, s := range room {
			room[i].Lits = append(slices.Clone(s.Lits), 99, 98)[:len(s.Lits)]
			room[i].Hints = append(slices.Clone(s.Hints), 97, 96)[:len(s.Hints)]
		}
		before := cloned(room)
		Write(room[:len(l)])
		if !slices.EqualFunc(room, before, sameStep) {
			t.Fatalf("Write changed %v to %v", before, room)
		}
		for _, s := range room {
			a, b := s.Lits[:len(s.Lits)+2], s.Hints[:len(s.Hints)+2]
			if a[len(s.Lits)] != 99 || a[len(s.Lits)+1] != 98 || b[len(s.Hints)] != 97 || b[len(s.Hints)+1] != 96 {
				t.Fatalf("Write wrote behind the lists of %v", s)
			}
		}
	}
}

// Bytes stay as they were when the steps that they were made of are changed, and when others are written.
func TestWriteKeepsNothing(t *testing.T) {
	l := []api.Step{added(9, api.Clause{1, -2}, 3, 4), gone(9, 3)}
	first, _ := Write(l)
	second, _ := Write(l)
	l[0].Lits[0], l[0].Hints[0], l[1].ID = 5, 6, 7
	writes(t, l, 97, 18, 10, 5, 0, 12, 8, 0, 100, 14, 6, 0)
	for i := range first[:cap(first)] {
		first[:cap(first)][i] = 255
	}
	if want := []byte{97, 18, 2, 5, 0, 6, 8, 0, 100, 18, 6, 0}; !bytes.Equal(second, want) {
		t.Errorf("the bytes became %v", second)
	}
	writes(t, l, 97, 18, 10, 5, 0, 12, 8, 0, 100, 14, 6, 0)
}
