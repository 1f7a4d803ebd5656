package extend

import (
	"fmt"
	"math"
	"math/rand"
	"slices"
	"testing"

	"threshing/api"
)

const (
	leastLit    = math.MinInt32
	greatestLit = math.MaxInt32
)

const (
	no  = false
	yes = true
)

// wanted is a call, and the answer that is written down for it.
type wanted struct {
	m     api.Model
	stack []api.Witness
	want  api.Model
	e     api.Errno
}

func answers(t *testing.T, l ...wanted) {
	t.Helper()
	for _, x := range l {
		if m, e := plain(x.m, x.stack); !slices.Equal(m, x.want) || e != x.e {
			t.Fatalf("%s %v: the plain one says %s %d, not %s %d", short(x.m), x.stack, short(m), e, short(x.want), x.e)
		}
		if m, e := Extend(x.m, x.stack); !slices.Equal(m, x.want) || e != x.e {
			t.Errorf("%s %v: %s %d, want %s %d", short(x.m), x.stack, short(m), e, short(x.want), x.e)
		}
	}
}

// short tells a model, of a great one but how many values it has.
func short(m api.Model) string {
	if len(m) > 20 {
		return fmt.Sprint(len(m), " values")
	}
	return fmt.Sprint([]bool(m))
}

// both asks an answer of Extend and of the plain one, which must be the same.
func both(t *testing.T, m api.Model, stack []api.Witness) (api.Model, api.Errno) {
	t.Helper()
	want, wantE := plain(m, stack)
	got, e := Extend(m, stack)
	if !slices.Equal(got, want) || e != wantE {
		t.Fatalf("%v %v: %v %d, want %v %d", m, stack, got, e, want, wantE)
	}
	return got, e
}

// The chapter's examples.
func TestExamples(t *testing.T) {
	answers(t,
		wanted{values(no, no), of(with(lits(1), lits(1, 2))), values(yes, no), api.OK},
		wanted{values(no, yes), of(with(lits(1), lits(1, 2))), values(no, yes), api.OK},
		wanted{values(no, no), of(with(lits(2), lits(1, 2)), with(lits(1, -2), lits(1))), values(yes, no), api.OK},
		wanted{values(yes), of(with(lits(2), lits(2))), nil, api.ErrLit},
	)
}

// P8.1: nil and empty lists mean the same, inside witnesses too.
func TestNothing(t *testing.T) {
	for _, stack := range [][]api.Witness{nil, {}, {{}}, {{Lits: api.Clause{}, Clause: api.Clause{}}}, {{}, {}, {}}} {
		for _, m := range []api.Model{nil, {}, {yes}, {no}, {no, yes, no}} {
			answers(t, wanted{m, stack, m, api.OK})
		}
	}
	for _, none := range []api.Clause{nil, {}} {
		answers(t,
			wanted{values(no, yes), of(with(none, lits(1))), values(no, yes), api.OK},
			wanted{values(no, yes), of(with(lits(1), none)), values(yes, yes), api.OK},
			wanted{values(no, yes), of(with(lits(1, -2), none), with(none, none)), values(yes, no), api.OK},
		)
	}
}

// P8.1: a literal that is 0, or of a variable that has no value, wherever it stands.
func TestWrongLit(t *testing.T) {
	for _, m := range []api.Model{nil, {no}, {yes}, {no, yes, no}, make(api.Model, api.MaxVar), make(api.Model, api.MaxVar+1)} {
		past := api.Lit(len(m) + 1)
		for _, l := range []api.Lit{0, past, -past, past + 1, -past - 1, greatestLit, -greatestLit, leastLit} {
			answers(t,
				wanted{m, of(with(lits(l), nil)), nil, api.ErrLit},
				wanted{m, of(with(nil, lits(l))), nil, api.ErrLit},
				wanted{m, of(with(lits(l), lits(l))), nil, api.ErrLit},
				wanted{m, of(with(lits(l), nil), with(nil, nil)), nil, api.ErrLit},
				wanted{m, of(with(nil, nil), with(nil, lits(l))), nil, api.ErrLit},
			)
		}
	}
}

// P8.1: a wrong literal is one also where a witness would never be looked at, or not so far.
func TestWrongLitUnseen(t *testing.T) {
	m := values(yes, no)
	for _, l := range []api.Lit{0, 3, -3, greatestLit, -greatestLit, leastLit} {
		answers(t,
			wanted{m, of(with(lits(l), lits(1))), nil, api.ErrLit},
			wanted{m, of(with(lits(2, 2, l), lits(2, 1))), nil, api.ErrLit},
			wanted{m, of(with(lits(2), lits(1, l))), nil, api.ErrLit},
			wanted{m, of(with(lits(2), lits(1, -2, 1, 2, l))), nil, api.ErrLit},
			wanted{m, of(with(nil, lits(1, l))), nil, api.ErrLit},
			wanted{m, of(with(nil, lits(l, 1))), nil, api.ErrLit},
			wanted{m, of(with(lits(l), lits(2, -2))), nil, api.ErrLit},
			wanted{m, of(with(lits(l), lits(1)), with(lits(2), lits(2)), with(lits(2), lits(2))), nil, api.ErrLit},
			wanted{m, of(with(lits(2), lits(2)), with(lits(l), lits(1)), with(lits(2), lits(2))), nil, api.ErrLit},
			wanted{m, of(with(lits(2), lits(2)), with(lits(2), lits(2)), with(lits(2), lits(1, l))), nil, api.ErrLit},
		)
	}
}

// P8.1: literals of the last variable that has a value; how many may have one is not bounded by a formula's variables.
func TestBound(t *testing.T) {
	answers(t,
		wanted{values(no), of(with(lits(1), lits(1))), values(yes), api.OK},
		wanted{values(yes), of(with(lits(-1), lits(-1))), values(no), api.OK},
		wanted{values(no, no, no), of(with(lits(3), lits(3))), values(no, no, yes), api.OK},
		wanted{values(yes, yes, yes), of(with(lits(-3), lits(-3))), values(yes, yes, no), api.OK},
	)
	for _, n := range []int{api.MaxVar, api.MaxVar + 1, 3 * api.MaxVar} {
		m := make(api.Model, n)
		last := api.Lit(n)
		got, e := Extend(m, of(with(lits(last), lits(last)), with(lits(-last), lits(1, last))))
		if e != api.OK || len(got) != n || !got[n-1] || slices.Contains(got[:n-1], true) {
			t.Errorf("%d values: %d values, error %d", n, len(got), e)
		}
		if got, e := Extend(m[:n-1], of(with(lits(last), lits(last)))); len(got) != 0 || e != api.ErrLit {
			t.Errorf("%d values, one past: %d values, error %d", n-1, len(got), e)
		}
	}
}

// P8.1: a clause that is true is left alone, by whichever literal it is so; else each literal is made true, also if the clause is not made true by that.
func TestOneWitness(t *testing.T) {
	answers(t,
		wanted{values(yes, no, no), of(with(lits(2, 3), lits(1, 2))), values(yes, no, no), api.OK},
		wanted{values(no, no, yes), of(with(lits(1), lits(1, 2, 3))), values(no, no, yes), api.OK},
		wanted{values(no, no, yes), of(with(lits(1), lits(1, -2))), values(no, no, yes), api.OK},
		wanted{values(no, yes, yes), of(with(lits(1), lits(1, -2, -3))), values(yes, yes, yes), api.OK},
		wanted{values(no, yes, yes), of(with(lits(1, -2, -3), lits(1))), values(yes, no, no), api.OK},
		wanted{values(no, no, no), of(with(lits(3, 1), lits(3))), values(yes, no, yes), api.OK},
		wanted{values(no, no, no), of(with(lits(2), lits(1))), values(no, yes, no), api.OK},
		wanted{values(yes, yes, no), of(with(lits(-2), lits(-1))), values(yes, no, no), api.OK},
		wanted{values(yes, yes, no), of(with(lits(1, 2), lits(-1))), values(yes, yes, no), api.OK},
		wanted{values(no, no, no), of(with(nil, lits(1, 2, 3))), values(no, no, no), api.OK},
		// A clause without literals is never true, one with a literal and its negation always.
		wanted{values(no, yes, no), of(with(lits(1, -2), nil)), values(yes, no, no), api.OK},
		wanted{values(no, yes, no), of(with(lits(1, -2), lits(3, -3))), values(no, yes, no), api.OK},
		wanted{values(no, no, no), of(with(lits(1), lits(1, 1))), values(yes, no, no), api.OK},
	)
}

// P8.1: the literals in order: of one and its negation, the latter one is what is true behind it. The clause is asked once, ahead of all of them.
func TestLitsInOrder(t *testing.T) {
	for _, m := range []api.Model{values(no, no), values(yes, no)} {
		answers(t,
			wanted{m, of(with(lits(1, -1), lits(2))), values(no, no), api.OK},
			wanted{m, of(with(lits(-1, 1), lits(2))), values(yes, no), api.OK},
			wanted{m, of(with(lits(1, -1, 1), lits(2))), values(yes, no), api.OK},
			wanted{m, of(with(lits(-1, 1, 2, -1), lits(2))), values(no, yes), api.OK},
			wanted{m, of(with(lits(1, 1), lits(2))), values(yes, no), api.OK},
			wanted{m, of(with(lits(-1, 2, -1, 2), lits(2))), values(no, yes), api.OK},
			wanted{m, of(with(lits(2, -1, -2), lits(2))), values(no, no), api.OK},
		)
	}
	answers(t,
		wanted{values(no, no, no), of(with(lits(1, 2, 3), lits(1, 2))), values(yes, yes, yes), api.OK},
		wanted{values(no, no, no), of(with(lits(1, -1, 2), lits(1))), values(no, yes, no), api.OK},
	)
}

// P8.1: the last witness first; each is asked in what those behind it have left, once.
func TestLastFirst(t *testing.T) {
	a, b := with(lits(2), lits(1, 2)), with(lits(1, -2), lits(1))
	on, off := with(lits(1), lits(1)), with(lits(-1), lits(-1))
	answers(t,
		wanted{values(no, no), of(a, b), values(yes, no), api.OK},
		wanted{values(no, no), of(b, a), values(yes, no), api.OK},
		wanted{values(no, yes), of(b, a), values(yes, no), api.OK},
		wanted{values(no), of(on, off), values(yes), api.OK},
		wanted{values(yes), of(on, off), values(yes), api.OK},
		wanted{values(no), of(off, on), values(no), api.OK},
		wanted{values(yes), of(off, on), values(no), api.OK},
		wanted{values(no), of(on, off, on), values(yes), api.OK},
		wanted{values(no), of(off, on, off), values(no), api.OK},
		wanted{values(yes), of(off, off, on, on), values(no), api.OK},
		// A witness that turns what one behind it has made true: nobody goes back to that.
		wanted{values(no, yes), of(with(lits(1, 2), lits(1)), with(lits(-2), lits(-2))), values(yes, yes), api.OK},
		// Each makes way for the next one.
		wanted{values(no, no, no), of(with(lits(3), lits(3, -2)), with(lits(2), lits(2, -1)), with(lits(1), lits(1))), values(yes, yes, yes), api.OK},
		wanted{values(no, no, no), of(with(lits(1), lits(1)), with(lits(2), lits(2, -1)), with(lits(3), lits(3, -2))), values(yes, no, no), api.OK},
	)
}

// P8.1: all short witnesses, right ones and wrong ones, in all short models.
func TestAllWitnesses(t *testing.T) {
	told := map[api.Errno]int{}
	rows := clausesUpTo(2, -3, -2, -1, 0, 1, 2, 3)
	for vars := range 4 {
		for _, m := range modelsOf(vars) {
			for _, w := range rows {
				for _, c := range rows {
					_, e := both(t, m, of(with(w, c)))
					told[e]++
				}
			}
		}
	}
	if told[api.OK] < 10000 || told[api.ErrLit] < 10000 || len(told) != 2 {
		t.Error(told)
	}
}

// P8.1: all short stacks of short witnesses.
func TestAllStacks(t *testing.T) {
	var all []api.Witness
	for _, w := range clausesUpTo(2, -2, -1, 1, 2) {
		for _, c := range clausesUpTo(1, -2, -1, 1, 2) {
			all = append(all, with(w, c))
		}
	}
	for _, stack := range rowsUpTo(2, all...) {
		for _, m := range modelsOf(2) {
			both(t, m, stack)
		}
	}
	all = nil
	for _, w := range clausesUpTo(1, -2, -1, 1, 2) {
		for _, c := range clausesUpTo(1, -2, -1, 1, 2) {
			all = append(all, with(w, c))
		}
	}
	for _, stack := range rowsUpTo(3, all...) {
		for _, m := range modelsOf(2) {
			both(t, m, stack)
		}
	}
}

// The stack is told from its last witness on, as often as one likes, and may be left early.
func TestBackward(t *testing.T) {
	told := backward(of(with(lits(1), nil), with(lits(2), nil), with(lits(3), nil)))
	for most := range 5 {
		var got api.Clause
		for w := range told {
			if got = append(got, w.Lits...); len(got) >= most {
				break
			}
		}
		if want := lits(3, 2, 1)[:min(max(most, 1), 3)]; !slices.Equal(got, want) {
			t.Errorf("at most %d: %v, want %v", most, got, want)
		}
	}
	for w := range backward(nil) {
		t.Error(w)
	}
}

func drawnModel(r *rand.Rand, vars int) api.Model {
	m := make(api.Model, vars)
	for i := range m {
		m[i] = r.Intn(2) == 0
	}
	return m
}

func drawnClause(r *rand.Rand, vars, most int) api.Clause {
	c := api.Clause{}
	for range r.Intn(most + 1) {
		l := api.Lit(r.Intn(vars) + 1)
		if r.Intn(2) == 0 {
			l = -l
		}
		c = append(c, l)
	}
	return c
}

func drawnStack(r *rand.Rand, vars, most int) []api.Witness {
	var stack []api.Witness
	for range r.Intn(most + 1) {
		stack = append(stack, with(drawnClause(r, vars, 4), drawnClause(r, vars, 4)))
	}
	return stack
}

// P8.1: many drawn stacks, some of them with a wrong literal.
func TestDrawn(t *testing.T) {
	r := rand.New(rand.NewSource(81))
	told := map[api.Errno]int{}
	turned := 0
	for range 20000 {
		vars := 1 + r.Intn(12)
		m, stack := drawnModel(r, vars), drawnStack(r, vars, 20)
		if r.Intn(4) == 0 && len(stack) > 0 {
			w := &stack[r.Intn(len(stack))]
			wrong := []api.Lit{0, api.Lit(vars + 1), api.Lit(-vars - 1), leastLit}[r.Intn(4)]
			if r.Intn(2) == 0 {
				w.Lits = slices.Insert(w.Lits, r.Intn(len(w.Lits)+1), wrong)
			} else {
				w.Clause = slices.Insert(w.Clause, r.Intn(len(w.Clause)+1), wrong)
			}
		}
		got, e := both(t, m, stack)
		told[e]++
		if e == api.OK && !slices.Equal(got, m) {
			turned++
		}
	}
	if told[api.OK] < 5000 || told[api.ErrLit] < 2000 || turned < 3000 {
		t.Error(told, turned)
	}
}

// P8.1: as many variables as a formula may have, and as many witnesses as it may have clauses.
func TestGreat(t *testing.T) {
	m := make(api.Model, api.MaxVar)
	up, down := make([]api.Witness, api.MaxVar), make([]api.Witness, api.MaxVar)
	for i := range api.MaxVar {
		l := api.Lit(i + 1)
		up[i] = with(lits(l), lits(l, -max(l-1, 1)))
		down[api.MaxVar-1-i] = up[i]
	}
	up[0], down[api.MaxVar-1] = with(lits(1), lits(1)), with(lits(1), lits(1))
	// From the greatest variable on each clause is true still; the first witness alone turns something.
	got, e := Extend(m, up)
	if e != api.OK || len(got) != api.MaxVar || !got[0] || slices.Contains(got[1:], true) {
		t.Errorf("up: %d values, error %d", len(got), e)
	}
	// From the least one on each makes the next one's clause false.
	got, e = Extend(m, down)
	if e != api.OK || len(got) != api.MaxVar || slices.Contains(got, false) {
		t.Errorf("down: %d values, error %d", len(got), e)
	}
	long := slices.Repeat(lits(1, -1, 2), api.MaxVar)
	got, e = Extend(m, of(with(long, lits(1))))
	if e != api.OK || got[0] || !got[1] || slices.Contains(got[2:], true) {
		t.Errorf("a long witness: %d values, error %d", len(got), e)
	}
	if got, e = Extend(m, of(with(lits(1), lits(1)), with(append(long, 0), nil))); e != api.ErrLit || len(got) != 0 {
		t.Errorf("a long witness with 0: %d values, error %d", len(got), e)
	}
}

// Whatever is handed in, the answer is what the plain one says, and what is handed in stays as it was.
func FuzzExtend(f *testing.F) {
	f.Add([]byte{0, 0}, []byte{2, 128, 1, 2, 128, 1, 254, 128, 1, 128})
	f.Add([]byte{1}, []byte{2, 128, 2, 128})
	f.Add([]byte{}, []byte{128, 128, 128, 128})
	f.Add([]byte{0, 1, 1}, []byte{0, 128, 1, 128, 253, 3, 128, 2})
	f.Fuzz(func(t *testing.T, model, rows []byte) {
		m := make(api.Model, len(model))
		for i, b := range model {
			m[i] = b%2 == 1
		}
		parts := []api.Clause{{}}
		for _, b := range rows {
			if b == 128 {
				parts = append(parts, api.Clause{})
				continue
			}
			parts[len(parts)-1] = append(parts[len(parts)-1], api.Lit(int8(b)))
		}
		var stack []api.Witness
		for pair := range slices.Chunk(append(parts, nil), 2) {
			stack = append(stack, with(pair[0], slices.Concat(pair[1:]...)))
		}
		ahead := clonedStack(stack)
		values := slices.Clone(m)
		both(t, m, stack)
		if !slices.Equal(m, values) || !slices.EqualFunc(stack, ahead, sameWitness) {
			t.Fatal("what was handed in is changed")
		}
	})
}
