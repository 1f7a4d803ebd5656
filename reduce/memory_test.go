package reduce

import (
	"fmt"
	"slices"
	"sync"
	"testing"

	"threshing/api"
)

// some is a row out of order, part of which may go.
func some() []Record {
	return []Record{{ID: 4, LBD: 3, Size: 3}, {ID: 1, LBD: 9, Size: 5, Used: 2}, {ID: 6, LBD: 12, Size: 4, Used: 1}, {ID: 2, LBD: 12, Size: 14}, {ID: 5, LBD: 1, Size: 2}, {ID: 8, LBD: 12, Size: 14, Locked: true}, {ID: 3, LBD: 12, Size: 4}}
}

// P18.4: what is handed in is only read, what lies behind its length included.
func TestHandedInOnlyRead(t *testing.T) {
	whole := append(some(), some()...)
	was := slices.Clone(whole)
	for n := range len(whole) + 1 {
		l := whole[:n]
		for part := -1; part <= 101; part++ {
			Choose(l, 2, part)
			if !slices.Equal(whole, was) {
				t.Fatalf("%d of %d: %v, was %v", part, n, whole, was)
			}
		}
		if n > 0 {
			Tier(l[n-1], 2)
		}
	}
	// All of it may go, and stands as it goes; and the other way round.
	whole = unlike(20)
	for range 2 {
		was = slices.Clone(whole)
		choose(t, whole[:10], 2, 100)
		choose(t, whole, 2, 100)
		if !slices.Equal(whole, was) {
			t.Fatalf("%v, was %v", whole, was)
		}
		slices.Reverse(whole)
	}
}

// scribble writes over a list, and over all that its memory has behind it.
func scribble(l []int64) {
	l = l[:cap(l)]
	for i := range l {
		l[i] = 77
	}
}

// P18.4: what is answered is new memory: whoever writes to it changes neither what was handed in nor another answer.
func TestAnswersAreNew(t *testing.T) {
	l := some()
	want := fmt.Sprint([]int64{2, 3, 6, 4})
	for _, part := range []int{100, 50, 100, 25, 0, 100} {
		first, second := choose(t, l, 2, part), choose(t, l, 2, part)
		scribble(first)
		if !slices.Equal(l, some()) {
			t.Fatalf("%v, was %v", l, some())
		}
		like(t, fmt.Sprint(part), second, choose(t, l, 2, part))
		scribble(second)
	}
	like(t, "at last", choose(t, l, 2, 100), want)
}

// P18.4: what was handed in is not kept: an answer stays as it was, whatever is written there, or called behind it.
func TestAnswersStay(t *testing.T) {
	l := some()
	first := choose(t, l, 2, 100)
	for i := range l {
		l[i] = Record{ID: 99, LBD: 50, Size: i}
	}
	second := choose(t, l, 2, 100)
	choose(t, unlike(50), 2, 100)
	choose(t, nil, 2, 100)
	like(t, "first", first, []int64{2, 3, 6, 4})
	like(t, "second", second, slices.Repeat([]int64{99}, 7))
	like(t, "again", choose(t, some(), 2, 100), first)
}

// Nothing is kept from call to call: the same row asked by many at once, each with an answer of its own.
func TestAtOnce(t *testing.T) {
	l := append(some(), unlike(200)...)
	want, e := Choose(l, 2, 80)
	like(t, "error", int(e), 0)
	answers := make([][]int64, 16)
	var wait sync.WaitGroup
	for i := range answers {
		wait.Go(func() {
			for range 50 {
				if _, e := Choose(l, 2, -1); e != api.ErrArg {
					return
				}
				answers[i], _ = Choose(l, 2, 80)
			}
		})
	}
	wait.Wait()
	for i, got := range answers {
		if !slices.Equal(got, want) {
			t.Errorf("%d: %v, want %v", i, got, want)
		}
		scribble(got)
	}
}
