package extend

import (
	"math/rand"
	"slices"
	"testing"

	"threshing/api"
)

func sameWitness(a, b api.Witness) bool {
	return slices.Equal(a.Lits, b.Lits) && slices.Equal(a.Clause, b.Clause)
}

func clonedStack(stack []api.Witness) []api.Witness {
	l := slices.Clone(stack)
	for i, w := range l {
		l[i] = with(slices.Clone(w.Lits), slices.Clone(w.Clause))
	}
	return l
}

// roomy is the same, with more memory behind its length, filled with what is no zero value.
func roomy[T any](l []T, behind T) []T {
	n := len(l)
	return append(slices.Clone(l), behind, behind, behind)[:n]
}

// roomyStack is the same of a stack, its rows included.
func roomyStack(stack []api.Witness) []api.Witness {
	l := roomy(stack, with(lits(77), lits(-77)))
	for i, w := range l {
		l[i] = with(roomy(w.Lits, 78), roomy(w.Clause, -78))
	}
	return l
}

// whole is a list with what lies behind its length.
func whole[S ~[]T, T any](l S) S { return l[:cap(l)] }

// wholeStack is the same of a stack, its rows included.
func wholeStack(stack []api.Witness) []api.Witness {
	l := slices.Clone(whole(stack))
	for i, w := range l {
		l[i] = with(slices.Clone(whole(w.Lits)), slices.Clone(whole(w.Clause)))
	}
	return l
}

// P8.2: what is handed in is only read, what lies behind it included, with an error too.
func TestOnlyRead(t *testing.T) {
	r := rand.New(rand.NewSource(82))
	for n := range 3000 {
		vars := 1 + r.Intn(6)
		m, stack := api.Model(roomy(drawnModel(r, vars), true)), roomyStack(drawnStack(r, vars, 6))
		if n%5 == 0 {
			stack = append(stack, with(lits(1), lits(api.Lit(vars+1))))
		}
		values, ahead := slices.Clone(whole(m)), wholeStack(stack)
		Extend(m, stack)
		if !slices.Equal(whole(m), values) {
			t.Fatalf("the model %v is %v", values, whole(m))
		}
		if got := wholeStack(stack); !slices.EqualFunc(got, ahead, sameWitness) {
			t.Fatalf("the stack %v is %v", ahead, got)
		}
	}
}

// P8.2: an answer shares no memory with the model, nor with another answer, also where it is the same as the model.
func TestNewMemory(t *testing.T) {
	for _, stack := range [][]api.Witness{nil, {}, of(with(lits(1), lits(1, -1))), of(with(lits(1, 2), lits(1))), of(with(nil, nil))} {
		m := api.Model(roomy(values(no, no, yes), true))
		got, _ := Extend(m, stack)
		other, _ := Extend(m, stack)
		want := slices.Clone(got)
		for i := range whole(m) {
			whole(m)[i] = !whole(m)[i]
		}
		for i := range whole(other) {
			whole(other)[i] = !whole(other)[i]
		}
		if !slices.Equal(got, want) {
			t.Errorf("%v: the answer %v is %v", stack, want, got)
		}
		before := slices.Clone(whole(m))
		for i := range whole(got) {
			whole(got)[i] = !whole(got)[i]
		}
		if !slices.Equal(whole(m), before) {
			t.Errorf("%v: the model is changed by its answer", stack)
		}
	}
}

// P8.2: the same arguments have the same answer, whatever was asked between.
func TestSameAnswer(t *testing.T) {
	m, stack := values(no, no), of(with(lits(2), lits(1, 2)), with(lits(1, -2), lits(1)))
	first, _ := Extend(m, stack)
	Extend(first, of(with(lits(-1, 2), nil)))
	Extend(m, of(with(lits(9), nil)))
	if again, e := Extend(m, stack); e != api.OK || !slices.Equal(again, first) || !slices.Equal(again, values(yes, no)) {
		t.Errorf("%v %d, and %v at first", again, e, first)
	}
	// Rows that share memory with each other are only read too.
	row := lits(1, -2, 2)
	shared := of(with(row[1:], row[:2]), with(row, row[1:]), with(row[:1], row[:1]))
	both(t, m, shared)
	if !slices.Equal(row, lits(1, -2, 2)) {
		t.Error(row)
	}
}
