package binary

import (
	"bytes"
	"math/big"
	"math/rand"
	"slices"
	"testing"

	"threshing/api"
)

// answers asks that Parse of b is l, and OK without a place.
func answers(t *testing.T, b []byte, l ...api.Step) {
	t.Helper()
	m, e, at := Parse(b)
	if e != api.OK || at != 0 || !slices.EqualFunc(l, m, sameStep) {
		t.Errorf("Parse(%v) = %v, %d, %d, want %v", start(b), m, e, at, l)
	}
}

// refuses asks that Parse of b is this error with this place, and no steps.
func refuses(t *testing.T, b []byte, e api.Errno, at int) {
	t.Helper()
	l, e1, at1 := Parse(b)
	if e1 != e || at1 != at || len(l) != 0 {
		t.Errorf("Parse(%v) = %d steps, %d, %d, want %d, %d", start(b), len(l), e1, at1, e, at)
	}
}

// start is as much of b as is worth telling.
func start(b []byte) []byte { return b[:min(len(b), 100)] }

// refusesStep asks that bytes with which no step begins are refused alone, ahead of steps' bytes that do not make them right, behind them, and between them.
func refusesStep(t *testing.T, b ...byte) {
	t.Helper()
	ahead := []byte{97, 18, 2, 5, 0, 6, 8, 0, 100, 128, 1, 6, 0}
	refuses(t, b, api.ErrByte, 0)
	refuses(t, slices.Concat(ahead, b), api.ErrByte, len(ahead))
	refuses(t, slices.Concat(ahead[:8], b, []byte{98}), api.ErrByte, 8)
}

// refusesAnyway asks the same of bytes that nothing behind them makes right.
func refusesAnyway(t *testing.T, b ...byte) {
	t.Helper()
	refusesStep(t, b...)
	for _, behind := range [][]byte{{0}, {1}, {2}, {0, 0, 0}, {97, 2, 0, 0}, {100, 0, 0}, {2, 0, 2, 0}} {
		refusesStep(t, slices.Concat(b, behind)...)
	}
}

func TestParseExamples(t *testing.T) {
	answers(t, []byte{97, 18, 2, 5, 0, 6, 8, 0}, added(9, api.Clause{1, -2}, 3, 4))
	answers(t, []byte{100, 128, 1, 6, 0}, gone(64, 3))
	answers(t, []byte{97, 2, 0, 3, 0}, added(1, nil, -1))
	refusesStep(t, 97, 18, 2, 5, 0, 6, 8)
	refusesAnyway(t, 97, 0, 0, 0)
	refusesAnyway(t, 97, 130, 0, 0, 0)
	refusesAnyway(t, 97, 3, 0, 0)
	refusesAnyway(t, 98, 2, 0, 0)
	refusesAnyway(t, 100, 2, 5, 0)
	refuses(t, []byte{100, 0, 0, 97, 2, 0, 1, 0}, api.ErrByte, 3)
}

func TestParse(t *testing.T) {
	answers(t, nil)
	answers(t, []byte{})
	answers(t, []byte{97, 2, 0, 0}, added(1, nil))
	answers(t, []byte{97, 2, 2, 0, 0}, added(1, api.Clause{1}))
	answers(t, []byte{97, 2, 0, 2, 0}, added(1, nil, 1))
	answers(t, []byte{100, 2, 0}, gone(1))
	answers(t, []byte{100, 0, 0}, gone(0))
	answers(t, []byte{100, 0, 10, 0}, gone(0, 5))
	answers(t, []byte{97, 10, 6, 6, 7, 0, 10, 10, 11, 0}, added(5, api.Clause{3, 3, -3}, 5, 5, -5))
	// Bytes that begin steps are numbers, too.
	answers(t, []byte{97, 100, 97, 100, 0, 97, 100, 0, 100, 100, 100, 0}, added(50, api.Clause{-48, 50}, -48, 50), gone(50, 50))
	answers(t, []byte{97, 40, 20, 0, 0, 97, 6, 0, 40, 0, 100, 40, 200, 1, 200, 1, 0}, added(20, api.Clause{10}), added(3, nil, 20), gone(20, 100, 100))
}

// Numbers at which one byte more is wanted.
func TestParseLengths(t *testing.T) {
	answers(t, []byte{97, 126, 126, 127, 128, 1, 129, 1, 0, 126, 127, 128, 1, 129, 1, 0},
		added(63, api.Clause{63, -63, 64, -64}, 63, -63, 64, -64))
	answers(t, []byte{97, 254, 127, 254, 127, 255, 127, 128, 128, 1, 129, 128, 1, 0, 0},
		added(8191, api.Clause{8191, -8191, 8192, -8192}))
	answers(t, []byte{100, 254, 255, 127, 128, 128, 128, 1, 254, 255, 255, 255, 255, 255, 255, 127, 128, 128, 128, 128, 128, 128, 128, 128, 1, 0},
		gone(1<<20-1, 1<<20, 1<<55-1, 1<<55))
}

// The bytes of numbers at the bounds, and of one past each.
var (
	maxID     = []byte{254, 255, 255, 255, 255, 255, 255, 255, 127}
	minID     = []byte{255, 255, 255, 255, 255, 255, 255, 255, 127}
	pastID    = []byte{128, 128, 128, 128, 128, 128, 128, 128, 128, 1}
	belowID   = []byte{129, 128, 128, 128, 128, 128, 128, 128, 128, 1}
	maxLit    = []byte{128, 128, 128, 1}
	minLit    = []byte{129, 128, 128, 1}
	pastLit   = []byte{130, 128, 128, 1}
	belowLit  = []byte{131, 128, 128, 1}
	wrapped   = []byte{130, 128, 128, 128, 128, 128, 128, 128, 128, 2} // 2^64 + 2, which is 2 in 64 bits
	wrapped32 = []byte{130, 128, 128, 128, 32}                         // twice 2^32 + 1, which is 1 in 32 bits
	endless   = bytes.Repeat([]byte{130}, 1000)
)

func TestParseBounds(t *testing.T) {
	answers(t, slices.Concat([]byte{97}, maxID, maxLit, minLit, []byte{2, 3, 0}, maxID, minID, []byte{2, 3, 0}),
		added(api.MaxID, api.Clause{api.MaxVar, -api.MaxVar, 1, -1}, api.MaxID, -api.MaxID, 1, -1))
	answers(t, slices.Concat([]byte{100}, maxID, maxID, []byte{2, 0}), gone(api.MaxID, api.MaxID, 1))
	for _, id := range [][]byte{{0}, {1}, {3}, minID, pastID, belowID, wrapped, endless} {
		refusesAnyway(t, slices.Concat([]byte{97}, id, []byte{0, 0})...)
		if id[0] != 0 {
			refusesAnyway(t, slices.Concat([]byte{100}, id, []byte{0})...)
		}
	}
	for _, lit := range [][]byte{{1}, pastLit, belowLit, maxID, minID, pastID, belowID, wrapped, wrapped32, endless} {
		refusesAnyway(t, slices.Concat([]byte{97, 2}, lit, []byte{0, 0})...)
		refusesAnyway(t, slices.Concat([]byte{97, 2, 2, 3}, lit, []byte{2, 0, 2, 0})...)
	}
	for _, hint := range [][]byte{{1}, pastID, belowID, wrapped, endless} {
		refusesAnyway(t, slices.Concat([]byte{97, 2, 0}, hint, []byte{0})...)
		refusesAnyway(t, slices.Concat([]byte{97, 2, 2, 0, 2, 3}, hint, []byte{2, 0})...)
	}
	for _, hint := range [][]byte{{1}, {3}, minID, pastID, belowID, wrapped, endless} {
		refusesAnyway(t, slices.Concat([]byte{100, 2}, hint, []byte{0})...)
		refusesAnyway(t, slices.Concat([]byte{100, 2, 2}, hint, []byte{2, 0})...)
	}
}

// A last byte 0 says nothing that the bytes ahead of it do not say.
func TestParseLastByte(t *testing.T) {
	for _, n := range [][]byte{{128, 0}, {130, 0}, {131, 0}, {128, 128, 0}, {130, 128, 0}, {130, 130, 0}, {255, 255, 255, 255, 255, 255, 255, 255, 0}, {254, 255, 255, 255, 255, 255, 255, 255, 255, 0}} {
		refusesAnyway(t, slices.Concat([]byte{97}, n, []byte{0, 0})...)
		refusesAnyway(t, slices.Concat([]byte{97, 2}, n, []byte{0, 0})...)
		refusesAnyway(t, slices.Concat([]byte{97, 2, 0}, n, []byte{0})...)
		refusesAnyway(t, slices.Concat([]byte{100}, n, []byte{0})...)
		refusesAnyway(t, slices.Concat([]byte{100, 2}, n, []byte{0})...)
	}
}

// Every byte but two begins no step.
func TestParseFirstByte(t *testing.T) {
	for c := range 256 {
		if c == 97 || c == 100 {
			continue
		}
		refusesAnyway(t, byte(c))
		refusesAnyway(t, byte(c), 2, 0, 0)
		refusesAnyway(t, byte(c), 2, 0)
	}
	refusesAnyway(t, 0)
	refusesStep(t, 97)
	refusesStep(t, 100)
}

// Bytes that are wanting: of a row's end, of a number, of all.
func TestParseCutShort(t *testing.T) {
	for _, whole := range [][]byte{
		{97, 130, 1, 130, 1, 3, 0, 131, 1, 2, 0},
		{97, 254, 255, 255, 255, 255, 255, 255, 255, 127, 0, 0},
		{100, 130, 1, 130, 1, 2, 0},
		{100, 0, 0},
	} {
		for n := range len(whole) - 1 {
			refusesStep(t, whole[:n+1]...)
		}
		refusesAnyway(t, whole[1:]...)
	}
	// What would be a step together with the next one's first bytes is that step, and the next one is wrong.
	refuses(t, []byte{97, 2, 0, 97, 2, 0, 0}, api.ErrByte, 6)
	refuses(t, []byte{100, 2, 100, 0, 0, 100, 0}, api.ErrByte, 4)
}

func TestParseLimits(t *testing.T) {
	most := bytes.Repeat([]byte{100, 0, 0}, api.MaxSteps)
	l, e, at := Parse(most)
	if e != api.OK || at != 0 || len(l) != api.MaxSteps || slices.ContainsFunc(l, func(s api.Step) bool { return !sameStep(s, gone(0)) }) {
		t.Errorf("as many steps as may be: %d, %d, %d", len(l), e, at)
	}
	with := func(b ...byte) []byte { return slices.Concat(most, b) }
	refuses(t, with(100, 0, 0), api.ErrLimit, len(most))
	refuses(t, with(97, 2, 0, 0), api.ErrLimit, len(most))
	refuses(t, with(100, 0, 0, 98), api.ErrLimit, len(most))
	refuses(t, with(100, 0, 0, 100, 0, 0), api.ErrLimit, len(most))
	refuses(t, with(100, 0), api.ErrByte, len(most))
	refuses(t, with(97, 0, 0, 0), api.ErrByte, len(most))
	refuses(t, with(0), api.ErrByte, len(most))
	refuses(t, slices.Concat([]byte{98}, most, []byte{100, 0, 0}), api.ErrByte, 0)
	refuses(t, slices.Concat(most[:9], []byte{98}, most), api.ErrByte, 9)
}

func TestParseItemLimits(t *testing.T) {
	const half = api.MaxLits / 2
	most := mostItems()
	l, e, at := Parse(most)
	want := []api.Step{added(1, ones[api.Lit](half), ones[int64](half-2)...), gone(2, 1), added(3, api.Clause{1})}
	if e != api.OK || at != 0 || !slices.EqualFunc(l, want, sameStep) {
		t.Errorf("as many literals and hints as may be: %d, %d, %d", len(l), e, at)
	}
	with := func(b ...byte) []byte { return slices.Concat(most, b) }
	refuses(t, with(100, 0, 0, 97, 8, 2, 0, 0), api.ErrLimit, len(most)+3)
	refuses(t, with(97, 8, 0, 3, 0), api.ErrLimit, len(most))
	refuses(t, with(100, 8, 2, 0, 98), api.ErrLimit, len(most))
	refuses(t, with(100, 8, 2), api.ErrByte, len(most))
	refuses(t, with(97, 8, 2, 0, 1, 0), api.ErrByte, len(most))
	if l, e, at := Parse(with(100, 0, 0, 97, 8, 0, 0)); e != api.OK || at != 0 || len(l) != 5 {
		t.Errorf("steps without literals and hints behind as many as may be: %d, %d, %d", len(l), e, at)
	}
}

// One step has as many as may be.
func TestParseLongestStep(t *testing.T) {
	row := bytes.Repeat([]byte{2}, api.MaxLits)
	for _, c := range []struct {
		bytes []byte
		want  api.Step
	}{
		{slices.Concat([]byte{97, 2}, row, []byte{0, 0}), added(1, ones[api.Lit](api.MaxLits))},
		{slices.Concat([]byte{97, 2, 0}, row, []byte{0}), added(1, nil, ones[int64](api.MaxLits)...)},
		{slices.Concat([]byte{100, 2}, row, []byte{0}), gone(1, ones[int64](api.MaxLits)...)},
	} {
		if l, e, at := Parse(c.bytes); e != api.OK || at != 0 || len(l) != 1 || !sameStep(l[0], c.want) {
			t.Errorf("as many in one step as may be: %d steps, %d, %d", len(l), e, at)
		}
	}
}

// Bytes that alone are past the limit are asked to be a step's, first.
func TestParseLongSteps(t *testing.T) {
	row := bytes.Repeat([]byte{2}, api.MaxLits+1)
	refuses(t, slices.Concat([]byte{97, 2}, row, []byte{0, 0}), api.ErrLimit, 0)
	refuses(t, slices.Concat([]byte{97, 2, 0}, row, []byte{0}), api.ErrLimit, 0)
	refuses(t, slices.Concat([]byte{97, 2, 0, 0, 100, 2}, row, []byte{0}), api.ErrLimit, 4)
	refuses(t, slices.Concat([]byte{97, 2}, row, pastLit, []byte{0, 0}), api.ErrByte, 0)
	refuses(t, slices.Concat([]byte{97, 2}, row, []byte{0}), api.ErrByte, 0)
	refuses(t, slices.Concat([]byte{97, 2, 0, 0, 97, 2}, row, []byte{0, 1, 0}), api.ErrByte, 4)
	refuses(t, slices.Concat([]byte{100, 2}, row, []byte{3, 0}), api.ErrByte, 0)
}

// plainRead tells the number at the beginning of b as the chapter says it, with what stands behind it.
func plainRead(b []byte) (n int64, behind []byte, ok bool) {
	last := slices.IndexFunc(b, func(c byte) bool { return c < 128 })
	if last < 0 {
		return 0, nil, false
	}
	code := new(big.Int)
	for i := last; i >= 0; i-- {
		code.Add(code.Mul(code, big.NewInt(128)), big.NewInt(int64(b[i]%128)))
	}
	amount, sign := new(big.Int).DivMod(code, big.NewInt(2), new(big.Int))
	if sign.Sign() > 0 {
		amount.Neg(amount)
	}
	if !amount.IsInt64() || amount.Int64() < -api.MaxID || !bytes.Equal(plainNumber(amount.Int64()), b[:last+1]) {
		return 0, nil, false
	}
	return amount.Int64(), b[last+1:], true
}

// plainRow tells the numbers ahead of the first 0, each of them from least to most, with what stands behind it.
func plainRow(b []byte, least, most int64) (l []int64, behind []byte, ok bool) {
	for {
		n, behind, ok := plainRead(b)
		if !ok || n < least || n > most {
			return nil, nil, false
		}
		if b = behind; n == 0 {
			return l, behind, true
		}
		l = append(l, n)
	}
}

// plainStep tells the step whose bytes b begins with, as the chapter says it, with what stands behind them.
func plainStep(b []byte) (s api.Step, behind []byte, ok bool) {
	id, rest, ok := plainRead(b[1:])
	if !ok || id < 0 || id > api.MaxID {
		return api.Step{}, nil, false
	}
	if b[0] == 100 {
		hints, rest, ok := plainRow(rest, 0, api.MaxID)
		return gone(id, hints...), rest, ok
	}
	lits, rest, ok := plainRow(rest, -api.MaxVar, api.MaxVar)
	if !ok || b[0] != 97 || id == 0 {
		return api.Step{}, nil, false
	}
	hints, rest, ok := plainRow(rest, -api.MaxID, api.MaxID)
	s = added(id, nil, hints...)
	for _, n := range lits {
		s.Lits = append(s.Lits, api.Lit(n))
	}
	return s, rest, ok
}

// checkPlain holds Parse against its plain definition, without limits.
func checkPlain(t *testing.T, b []byte) {
	t.Helper()
	var l []api.Step
	for rest := b; len(rest) > 0; {
		s, behind, ok := plainStep(rest)
		if !ok {
			refuses(t, b, api.ErrByte, len(b)-len(rest))
			return
		}
		l = append(l, s)
		rest = behind
	}
	answers(t, b, l...)
}

// All rows of a few bytes, of those that matter.
func TestParseAllShort(t *testing.T) {
	rows := [][]byte{nil}
	for range 6 {
		var next [][]byte
		for _, b := range rows {
			for _, c := range []byte{0, 1, 2, 3, 97, 100, 128, 129} {
				next = append(next, append(slices.Clone(b), c))
			}
		}
		for _, b := range next {
			checkPlain(t, b)
		}
		rows = next
	}
}

// All steps of a few numbers that are nearly right.
func TestParseAllNumbers(t *testing.T) {
	numbers := [][]byte{{0}, {1}, {2}, {3}, {130, 0}, {130, 1}, maxLit, belowLit, maxID, belowID, {128}}
	rows := [][]byte{{97}, {100}}
	for range 4 {
		var next [][]byte
		for _, b := range rows {
			for _, n := range numbers {
				next = append(next, slices.Concat(b, n))
			}
		}
		for _, b := range next {
			checkPlain(t, b)
			checkPlain(t, append(b, 0))
		}
		rows = next
	}
}

// spoilt changes some bytes, takes some out, and puts some in.
func spoilt(r *rand.Rand, b []byte) []byte {
	b = slices.Clone(b)
	for range r.Intn(3) {
		at := r.Intn(len(b) + 1)
		c := []byte{0, 1, 2, 3, 97, 98, 100, 126, 127, 128, 129, 255, byte(r.Intn(256))}[r.Intn(13)]
		switch {
		case at == len(b) || r.Intn(3) == 0:
			b = slices.Insert(b, at, c)
		case r.Intn(2) == 0:
			b = slices.Delete(b, at, at+1)
		default:
			b[at] = c
		}
	}
	return b
}

func TestParseDrawn(t *testing.T) {
	r := rand.New(rand.NewSource(53))
	for range 100000 {
		checkPlain(t, spoilt(r, plainBytes(stepsOf(r, 4))))
	}
}

func FuzzParse(f *testing.F) {
	f.Add([]byte{97, 18, 2, 5, 0, 6, 8, 0, 100, 128, 1, 6, 0, 97, 2, 0, 3, 0})
	f.Fuzz(func(t *testing.T, b []byte) { checkPlain(t, b) })
}

// P5.3 of Parse: neither the bytes nor those behind their length are written over.
func TestParseOnlyReads(t *testing.T) {
	r := rand.New(rand.NewSource(54))
	for range 5000 {
		b := spoilt(r, plainBytes(stepsOf(r, 5)))
		room := append(slices.Clone(b), 99, 98, 97, 96)
		before := slices.Clone(room)
		l, _, _ := Parse(room[:len(b)])
		for i := range l {
			clear(l[i].Lits)
			clear(l[i].Hints)
		}
		if !bytes.Equal(room, before) {
			t.Fatalf("%v became %v", before, room)
		}
	}
}

// What lies behind the length is not read either.
func TestParseNotBehind(t *testing.T) {
	b := []byte{100, 0, 0, 97, 18, 2, 5, 0, 6, 8, 0}
	refuses(t, b[:10], api.ErrByte, 3)
	refuses(t, b[:4], api.ErrByte, 3)
	refuses(t, b[:2], api.ErrByte, 0)
	answers(t, b[:3], gone(0))
	answers(t, b[:0])
}

// P5.3 of Parse: no list of an answer shares memory with another one, of it or of another answer, and none with the bytes.
func TestParseNewMemory(t *testing.T) {
	r := rand.New(rand.NewSource(55))
	for range 1000 {
		want := stepsOf(r, 6)
		b := plainBytes(want)
		first, _, _ := Parse(b)
		second, _, _ := Parse(b)
		clear(b)
		for i := range first {
			first[i].ID, first[i].Kind = -5, 9
			clear(first[i].Lits)
			clear(first[i].Hints)
			_ = append(first[i].Lits, 0, 0, 0, 0, 0, 0, 0, 0)
			_ = append(first[i].Hints, 0, 0, 0, 0, 0, 0, 0, 0)
			if !slices.EqualFunc(first[i+1:], want[i+1:], sameStep) {
				t.Fatalf("step %d of %v shares memory with one behind it", i, want)
			}
		}
		if !slices.EqualFunc(second, want, sameStep) {
			t.Fatalf("two answers to the bytes of %v share memory", want)
		}
	}
}

// The rows of a step share none either, whatever is put behind one of them.
func TestParseRowsApart(t *testing.T) {
	l, _, _ := Parse([]byte{97, 6, 2, 4, 0, 2, 4, 0, 97, 8, 10, 0, 6, 0, 100, 8, 2, 4, 6, 0})
	for i := range l {
		lits := l[i].Lits[:cap(l[i].Lits)]
		for j := range lits {
			lits[j] = 7
		}
		hints := l[i].Hints[:cap(l[i].Hints)]
		if i == 1 && hints[0] != 3 {
			t.Errorf("literals and hints share memory: %v", l)
		}
		for j := range hints {
			hints[j] = 7
		}
	}
	want := []api.Step{added(3, api.Clause{7, 7}, 7, 7), added(4, api.Clause{7}, 7), gone(4, 7, 7, 7)}
	if !slices.EqualFunc(l, want, sameStep) {
		t.Errorf("the lists became %v", l)
	}
}
