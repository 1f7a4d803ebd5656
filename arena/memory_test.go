package arena

import (
	"maps"
	"math"
	"slices"
	"testing"

	"threshing/api"
)

// kept is all that an arena keeps, copied.
func kept(a *Arena) Arena {
	return Arena{limit: a.limit, words: slices.Clone(a.words), begins: maps.Clone(a.begins), waste: a.waste}
}

func unchanged(a *Arena, was Arena) bool {
	return a.limit == was.limit && a.waste == was.waste && slices.Equal(a.words, was.words) && maps.Equal(a.begins, was.begins)
}

// mixed is an arena with a clause that is dead, one made shorter, one without literals and one as it was put: 0 dead, 6, 14, 18.
func mixed(t *testing.T) *pair {
	t.Helper()
	x := newPair(t, 30)
	x.put(1, lits(1, 2), true, 3)
	x.put(2, lits(3, 4, 5, 6), false, 4)
	x.put(3, nil, true, 5)
	x.put(4, lits(-7, leastLit), false, 6)
	x.shrink(6, 2)
	x.kill(0)
	x.mark(18, 7, 8)
	x.like("mixed", telling(words(x.a), x.a.Refs()), telling("24 8", []Ref{6, 14, 18}))
	x.agree()
	return x
}

// P9.7: each call that answers an error changes nothing.
func TestErrorChangesNothing(t *testing.T) {
	x := mixed(t)
	was := kept(x.a)
	check := func(name string, e, want api.Errno) {
		t.Helper()
		if e != want || !unchanged(x.a, was) {
			t.Errorf("%s: %d, want %d; unchanged: %v", name, e, want, unchanged(x.a, was))
		}
		x.agree()
	}
	tryPut := func(id int64, c api.Clause, lbd int) api.Errno {
		_, e := x.a.Put(id, c, true, lbd)
		return e
	}
	check("id 0", tryPut(0, lits(1), 1), api.ErrArg)
	check("id past", tryPut(api.MaxID+1, nil, 1), api.ErrArg)
	check("LBD -1", tryPut(1, nil, -1), api.ErrArg)
	check("LBD past", tryPut(1, nil, 65536), api.ErrArg)
	check("0", tryPut(1, lits(1, 0), 1), api.ErrLit)
	check("full", tryPut(1, lits(1, 2, 3), 1), api.ErrFull)
	for _, r := range []Ref{-1, 0, 1, 7, 12, 13, 15, 17, 24, math.MinInt, math.MaxInt} {
		check("Kill", x.a.Kill(r), api.ErrRef)
		check("Shrink", x.a.Shrink(r, 0), api.ErrRef)
		check("Swap", x.a.Swap(r, 0, 0), api.ErrRef)
		check("Mark", x.a.Mark(r, 1, 1), api.ErrRef)
	}
	for _, r := range x.a.Refs() {
		n := x.a.Len(r)
		check("Shrink past", x.a.Shrink(r, n+1), api.ErrArg)
		check("Shrink below", x.a.Shrink(r, -1), api.ErrArg)
		check("Swap past", x.a.Swap(r, n, 0), api.ErrArg)
		check("Swap past", x.a.Swap(r, 0, n), api.ErrArg)
		check("Swap below", x.a.Swap(r, -1, 0), api.ErrArg)
		check("Swap below", x.a.Swap(r, 0, -1), api.ErrArg)
		check("Mark LBD", x.a.Mark(r, 65536, 0), api.ErrArg)
		check("Mark LBD", x.a.Mark(r, -1, 0), api.ErrArg)
		check("Mark use", x.a.Mark(r, 0, 65536), api.ErrArg)
		check("Mark use", x.a.Mark(r, 0, -1), api.ErrArg)
	}
}

// What is only asked changes nothing.
func TestAskingChangesNothing(t *testing.T) {
	x := mixed(t)
	was := kept(x.a)
	for range 3 {
		x.agree() // all that can be asked, at every place
		if !unchanged(x.a, was) {
			t.Fatal("changed")
		}
	}
}

// P9.7: a clause that is handed in is copied, and only read, what lies behind its length included.
func TestPutCopies(t *testing.T) {
	behind := lits(1, -2, 3, 44, 55, 66)
	all := slices.Clone(behind)
	x := newPair(t, 100)
	r, _ := x.put(1, behind[:3], true, 2)
	x.put(2, behind[1:2], true, 2)
	for i := range behind {
		if behind[i] != all[i] {
			t.Fatalf("written over: %v", behind)
		}
		behind[i] = 99
	}
	x.agree()
	x.swap(r, 0, 2)
	x.shrink(r, 1)
	x.kill(7)
	x.collect()
	if !slices.Equal(behind, slices.Repeat(lits(99), 6)) {
		t.Errorf("written over: %v", behind)
	}
	// Neither does an error write, or keep.
	none := lits(5, 0, 7)
	if put(x.a, 1, none[:2], true, 2) != "0 4" || put(x.a, 1, slices.Repeat(lits(7), 200), true, 2) != "0 90" || !slices.Equal(none, lits(5, 0, 7)) {
		t.Errorf("written over: %v", none)
	}
	x.agree()
}

// scribble writes over a list, and over all that its memory has behind it.
func scribble[T any](l []T, v T) {
	l = l[:cap(l)]
	for i := range l {
		l[i] = v
	}
}

// P9.7: what is answered is new memory: whoever writes to it changes neither the arena nor another answer.
func TestAnswersAreNew(t *testing.T) {
	x := mixed(t)
	for _, r := range x.a.Refs() {
		other := x.a.Lits(r)
		was := slices.Clone(other)
		scribble(x.a.Lits(r), 77)
		if !slices.Equal(other, was) {
			t.Errorf("Lits(%d) shares with another answer", r)
		}
		x.agree()
	}
	refs := x.a.Refs()
	scribble(x.a.Refs(), -1)
	if !slices.Equal(refs, []Ref{6, 14, 18}) {
		t.Errorf("Refs shares with another answer: %v", refs)
	}
	x.agree()
	moves := x.collect()
	again := x.collect()
	scribble(moves, Move{From: -1, To: -1})
	if !slices.Equal(again, []Move{{0, 0}, {6, 6}, {10, 10}}) {
		t.Errorf("Collect shares with another answer: %v", again)
	}
	x.agree()
	scribble(again, Move{From: -1, To: -1})
	x.agree()
	x.like("Collect", x.collect(), "[{0 0} {6 6} {10 10}]")
}

// P9.7: an answer stays as it was, whatever is called behind it.
func TestAnswersStay(t *testing.T) {
	x := mixed(t)
	c, refs := x.a.Lits(6), x.a.Refs()
	last := x.a.Lits(18)
	x.swap(6, 0, 1)
	x.shrink(6, 1)
	x.swap(18, 1, 0)
	x.kill(14)
	moves := x.collect()
	x.put(9, lits(8, 8, 8, 8), true, 1)
	x.kill(0)
	x.collect()
	x.agree()
	if !slices.Equal(c, lits(3, 4)) || !slices.Equal(last, lits(-7, leastLit)) || !slices.Equal(refs, []Ref{6, 14, 18}) || !slices.Equal(moves, []Move{{6, 0}, {18, 5}}) {
		t.Errorf("%v %v %v %v", c, last, refs, moves)
	}
}

// No arena has anything of another.
func TestTwoArenas(t *testing.T) {
	x, y := mixed(t), mixed(t)
	x.collect()
	x.kill(0)
	y.agree()
	y.put(9, lits(1), true, 1)
	y.shrink(6, 0)
	x.agree()
	z := newPair(t, 50)
	z.agree()
}
