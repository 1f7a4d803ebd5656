package unit

import (
	"math/rand"
	"reflect"
	"slices"
	"testing"

	"threshing/api"
	"threshing/sample"
)

// spoiled fills all of a list's memory, what lies behind its length included.
func spoiled[T any](l []T, by T) {
	l = l[:cap(l)]
	for i := range l {
		l[i] = by
	}
}

// P20.3: the first ones, and what lies behind them, are only read; the base is not changed by Propagate.
func TestOnlyRead(t *testing.T) {
	r := rand.New(rand.NewSource(3))
	for range 500 {
		_, b := sample.Base(drawn(r))
		ahead := b.Copy()
		first := append(firsts(r, b.Vars()), 1, 2, 3)
		had := slices.Clone(first)
		Propagate(b, first[:len(first)-3], 2)
		if !slices.Equal(first, had) {
			t.Fatalf("%v, not %v", first, had)
		}
		if !reflect.DeepEqual(b.Entries(), ahead.Entries()) || !reflect.DeepEqual(b.Rules(), ahead.Rules()) {
			t.Fatal("Propagate changed its base")
		}
	}
}

// P20.3: what is answered is new memory: neither that of what was handed in, nor that of another answer.
func TestNewMemory(t *testing.T) {
	b := example(t)
	first := lits(-3)
	x, _ := Propagate(b, first, 0)
	y, _ := Propagate(b, first, 0)
	hints, upto, less := y.Hints(), y.Upto(5), y.Upto(4)
	spoiled(first, 7)
	spoiled(x.True, 7)
	spoiled(x.Reasons, 7)
	if !same(y, Trail{lits(-3, 1, 2, 4, 5), ids(1, 2, 3, 5), 0}) {
		t.Error(y)
	}
	spoiled(less, 8)
	spoiled(hints, 8)
	if !slices.Equal(upto, ids(1, 2, 3, 5)) || !same(y, Trail{lits(-3, 1, 2, 4, 5), ids(1, 2, 3, 5), 0}) {
		t.Error(upto, y)
	}
	spoiled(upto, 9)
	if h := y.Hints(); !slices.Equal(h, ids(1, 2, 3, 5)) {
		t.Error(h)
	}
	tells(t, b, lits(-3), 0, Trail{lits(-3, 1, 2, 4, 5), ids(1, 2, 3, 5), 0})
}

// P20.3: a trail told for a conflict keeps its own list.
func TestConflictMemory(t *testing.T) {
	x, _ := Propagate(example(t), lits(-2), 0)
	x.Reasons = append(make([]int64, 0, 8), x.Reasons...)
	h := x.Hints()
	if len(h) != 2 || x.Reasons[:2][1] != 0 {
		t.Error(h, x.Reasons[:2])
	}
}

// P20.2, P20.3: what Units put into a base is not what was answered, nor what is answered later.
func TestUnitsMemory(t *testing.T) {
	b := example(t)
	x, _ := Propagate(b, nil, 0)
	Units(b, 9)
	spoiled(x.True, 9)
	spoiled(x.Reasons, 9)
	if s := b.Steps(); !slices.Equal(s[0].Lits, lits(2)) || !slices.Equal(s[0].Hints, ids(1, 2)) {
		t.Error(s)
	}
	for _, c := range b.Entries() {
		spoiled(c.Lits, api.Lit(4))
	}
	tells(t, b, nil, 0, Trail{lits(1, 2), ids(1, 6), 0})
}
