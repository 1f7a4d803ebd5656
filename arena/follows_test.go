package arena

import (
	"fmt"
	"math/rand"
	"slices"
	"testing"

	"threshing/api"
)

// call is one of a row of calls: it is told of both arenas.
type call func(x *pair)

// somePlaces are the places that short rows of short clauses have, and some that they have not.
var somePlaces = []Ref{0, 4, 5, 9}

// alphabet is the calls of which all short rows are made.
func alphabet() []call {
	l := []call{
		func(x *pair) { x.put(1, nil, false, 0) },
		func(x *pair) { x.put(api.MaxID, lits(-2), true, 65535) },
		func(x *pair) { x.put(1<<32+3, lits(4, leastLit), false, 6) },
		func(x *pair) { x.collect() },
	}
	for _, r := range somePlaces {
		l = append(l,
			func(x *pair) { x.kill(r) },
			func(x *pair) { x.shrink(r, 0) },
			func(x *pair) { x.swap(r, 0, 1) },
		)
	}
	return append(l,
		func(x *pair) { x.shrink(0, 1) },
		func(x *pair) { x.shrink(5, 1) },
		func(x *pair) { x.mark(0, 3, 65535) },
	)
}

// P9.2 to P9.6: all short rows of calls.
func TestAllRows(t *testing.T) {
	calls := alphabet()
	var row []call
	rows := 0
	var longer func(most int)
	longer = func(most int) {
		x := newPair(t, 14)
		for _, c := range row {
			c(x)
		}
		x.agree()
		rows++
		if len(row) == most {
			return
		}
		for _, c := range calls {
			row = append(row, c)
			longer(most)
			row = row[:len(row)-1]
		}
	}
	longer(4)
	if n := len(calls); rows != 1+n+n*n+n*n*n+n*n*n*n {
		t.Error(rows)
	}
}

func drawnLit(r *rand.Rand) api.Lit {
	switch r.Intn(12) {
	case 0:
		return leastLit
	case 1:
		return greatestLit
	}
	l := api.Lit(1 + r.Intn(9))
	if r.Intn(2) == 0 {
		return -l
	}
	return l
}

func drawnClause(r *rand.Rand, most int) api.Clause {
	c := api.Clause{}
	for range r.Intn(most + 1) {
		c = append(c, drawnLit(r))
	}
	return c
}

func drawnID(r *rand.Rand) int64 { return 1 + r.Int63n(api.MaxID)>>r.Intn(62) }

// drawnRef is mostly where a clause begins, else any place about.
func drawnRef(r *rand.Rand, x *pair) Ref {
	if refs := x.p.refs(); len(refs) > 0 && r.Intn(10) > 0 {
		return refs[r.Intn(len(refs))]
	}
	return Ref(r.Intn(x.p.end()+4) - 2)
}

func drawnSmall(r *rand.Rand) int {
	return []int{-1, 0, 1, r.Intn(65536), r.Intn(65536), 65535, 65536}[r.Intn(7)]
}

// drawnCall calls something of both, and tells what, and what was answered.
func drawnCall(r *rand.Rand, x *pair) (string, api.Errno) {
	switch r.Intn(14) {
	default:
		c := drawnClause(r, 7)
		if len(c) > 0 && r.Intn(20) == 0 {
			c[r.Intn(len(c))] = 0
		}
		id := drawnID(r)
		if r.Intn(20) == 0 {
			id = []int64{0, -1, api.MaxID + 1}[r.Intn(3)]
		}
		_, e := x.put(id, c, r.Intn(2) == 0, max(drawnSmall(r), r.Intn(20)-1))
		return "Put", e
	case 4, 5:
		return "Kill", x.kill(drawnRef(r, x))
	case 6, 7, 8:
		return "Shrink", x.shrink(drawnRef(r, x), r.Intn(9)-1)
	case 9, 10:
		return "Swap", x.swap(drawnRef(r, x), r.Intn(6)-1, r.Intn(6)-1)
	case 11, 12:
		return "Mark", x.mark(drawnRef(r, x), drawnSmall(r), drawnSmall(r))
	case 13:
		x.collect()
		return "Collect", api.OK
	}
}

// P9.2 to P9.6: long rows of drawn calls, each kind with each of its answers many times.
func TestDrawn(t *testing.T) {
	told := map[string]int{}
	for seed := range 400 {
		r := rand.New(rand.NewSource(int64(seed)))
		x := newPair(t, 40+r.Intn(300))
		for range 100 {
			name, e := drawnCall(r, x)
			told[fmt.Sprint(name, " ", int(e))]++
			x.agree()
		}
	}
	for _, want := range []string{"Put 0", "Put 2", "Put 4", "Put 90", "Kill 0", "Kill 91", "Shrink 0", "Shrink 2", "Shrink 91", "Swap 0", "Swap 2", "Swap 91", "Mark 0", "Mark 2", "Mark 91", "Collect 0"} {
		if told[want] < 200 {
			t.Errorf("%s: %d", want, told[want])
		}
		delete(told, want)
	}
	if len(told) != 0 {
		t.Error(told)
	}
}

// found is what is known of a clause that was put: where it lies by what Collect told, and what it must be.
type found struct {
	at        Ref
	lits      api.Clause
	red       bool
	lbd, used int
}

// follows holds P9.8 of an arena: what was put is found, under its place, and nothing else is; words are those of clauses and waste.
func follows(t *testing.T, a *Arena, known map[int64]found) {
	t.Helper()
	sum := 0
	for _, r := range a.Refs() {
		f, ok := known[a.ID(r)]
		if !ok || f.at != r {
			t.Fatalf("at %d a clause %d, of which nothing is known, or that is to be at %d", r, a.ID(r), f.at)
		}
		sum += 4 + a.Len(r)
	}
	if n := len(a.Refs()); n != len(known) {
		t.Fatalf("%d clauses, want %d", n, len(known))
	}
	for id, f := range known {
		lbd, used := a.LBD(f.at)
		if a.ID(f.at) != id || !slices.Equal(a.Lits(f.at), f.lits) || a.Red(f.at) != f.red || lbd != f.lbd || used != f.used {
			t.Fatalf("%d at %d: %d %v %v %d %d, want %v", id, f.at, a.ID(f.at), a.Lits(f.at), a.Red(f.at), lbd, used, f)
		}
	}
	if n, waste := a.Words(); n != sum+waste {
		t.Fatalf("%d words, of which %d are waste, and %d of clauses", n, waste, sum)
	}
}

// move gives each clause the place that Collect told.
func move(t *testing.T, moves []Move, known map[int64]found) {
	t.Helper()
	to := map[Ref]Ref{}
	for _, m := range moves {
		to[m.From] = m.To
	}
	if len(to) != len(moves) || len(to) != len(known) {
		t.Fatalf("%d moves of %d clauses", len(moves), len(known))
	}
	for id, f := range known {
		place, ok := to[f.at]
		if !ok {
			t.Fatalf("no move of %d at %d", id, f.at)
		}
		f.at = place
		known[id] = f
	}
}

// P9.8: in many orders, clauses put, killed, made shorter and collected.
func TestFollows(t *testing.T) {
	for seed := range 60 {
		r := rand.New(rand.NewSource(int64(9000 + seed)))
		a := New(2000)
		known := map[int64]found{}
		last := int64(0)
		pick := func() (int64, found) {
			for id := range last { // the first one from a drawn id on: not by a map's order
				id = 1 + (id+r.Int63n(last))%last
				if f, ok := known[id]; ok {
					return id, f
				}
			}
			return 0, found{at: -1}
		}
		for range 300 {
			id, f := pick()
			switch kind := r.Intn(8); {
			case kind == 0:
				move(t, a.Collect(), known)
				if _, waste := a.Words(); waste != 0 {
					t.Fatal(waste)
				}
			case kind < 4 || id == 0:
				c := drawnClause(r, 9)
				red, lbd := r.Intn(2) == 0, r.Intn(65536)
				if at, e := a.Put(last+1, c, red, lbd); e == api.OK {
					last++
					known[last] = found{at, c, red, lbd, 0}
				}
			case kind == 4:
				if e := a.Kill(f.at); e != api.OK {
					t.Fatal(e)
				}
				delete(known, id)
			case kind == 5:
				f.lits = f.lits[:r.Intn(len(f.lits)+1)]
				if e := a.Shrink(f.at, len(f.lits)); e != api.OK {
					t.Fatal(e)
				}
				known[id] = f
			case kind == 6:
				f.lbd, f.used = r.Intn(65536), r.Intn(65536)
				if e := a.Mark(f.at, f.lbd, f.used); e != api.OK {
					t.Fatal(e)
				}
				known[id] = f
			}
			follows(t, a, known)
		}
	}
}

// P9.8: of a few clauses, all orders in which all are put and some of them killed, made shorter and collected between.
func TestFollowsAllOrders(t *testing.T) {
	clauses := []api.Clause{{1, -2, 3}, {}, {leastLit}, {4, 5}}
	for fates := range 81 { // by clause: it stays, is made shorter, or dies
		for when := range 16 { // behind which of them it is collected
			a := New(100)
			known := map[int64]found{}
			for i, c := range clauses {
				id := int64(i + 1)
				at, e := a.Put(id, c, i%2 == 0, i)
				if e != api.OK {
					t.Fatal(e)
				}
				known[id] = found{at: at, lits: c, red: i%2 == 0, lbd: i}
				// What becomes of the one ahead is known but now, when something lies behind it.
				fate(t, a, known, id-1, fates)
				if when>>i&1 == 1 {
					move(t, a.Collect(), known)
				}
				follows(t, a, known)
			}
			fate(t, a, known, 4, fates)
			follows(t, a, known)
			move(t, a.Collect(), known)
			follows(t, a, known)
		}
	}
}

func fate(t *testing.T, a *Arena, known map[int64]found, id int64, fates int) {
	t.Helper()
	f, ok := known[id]
	if !ok {
		return
	}
	for range id - 1 {
		fates /= 3
	}
	e := api.OK
	switch fates % 3 {
	case 1:
		f.lits = f.lits[:len(f.lits)/2]
		e = a.Shrink(f.at, len(f.lits))
		known[id] = f
	case 2:
		e = a.Kill(f.at)
		delete(known, id)
	}
	if e != api.OK {
		t.Fatal(e)
	}
}

// P9.8: many clauses, half of them killed and collected again and again.
func TestMany(t *testing.T) {
	a := New(1 << 22)
	known := map[int64]found{}
	id := int64(0)
	for round := range 6 {
		for range 20000 {
			id++
			c := make(api.Clause, id%17)
			for i := range c {
				c[i] = api.Lit(id%1000+1) * api.Lit(1-i%2*2)
			}
			at, e := a.Put(id, c, id%3 == 0, int(id%65536))
			if e != api.OK {
				t.Fatal(e)
			}
			known[id] = found{at: at, lits: c, red: id%3 == 0, lbd: int(id % 65536)}
		}
		for id, f := range known {
			if id%2 == int64(round)%2 {
				if e := a.Kill(f.at); e != api.OK {
					t.Fatal(e)
				}
				delete(known, id)
			}
		}
		move(t, a.Collect(), known)
		follows(t, a, known)
	}
	if len(known) != 10000 {
		t.Error(len(known))
	}
}

// One long clause, up to the last word, as long as a formula's literals may be in all; and made shorter.
func TestLong(t *testing.T) {
	c := slices.Repeat(lits(1, -2, 3, 4), api.MaxLits/4)
	a := New(api.MaxLits + 9)
	if put(a, 1, lits(6), false, 1) != "0 0" || put(a, 2, c, true, 1) != "5 0" || put(a, 3, nil, true, 1) != "0 90" {
		t.Fatal("Put")
	}
	if a.Len(5) != len(c) || !slices.Equal(a.Lits(5), c) || a.Lit(5, len(c)-1) != 4 || a.Lit(5, len(c)) != 0 {
		t.Error("what is told of it")
	}
	if a.Swap(5, 0, len(c)-1) != api.OK || a.Lit(5, 0) != 4 || a.Kill(0) != api.OK {
		t.Error("Swap, Kill")
	}
	if !slices.Equal(a.Collect(), []Move{{5, 0}}) || a.Len(0) != len(c) || a.Lit(0, 0) != 4 || a.Lit(0, len(c)-1) != 1 || !slices.Equal(a.Lits(0)[1:len(c)-1], c[1:len(c)-1]) {
		t.Error("Collect")
	}
	if a.Shrink(0, 3) != api.OK || words(a) != fmt.Sprint(api.MaxLits+4, api.MaxLits-3) || len(a.Collect()) != 1 || words(a) != "7 0" {
		t.Error("Shrink: ", words(a))
	}
}

// The same calls tell the same, whatever a map's order.
func TestSameTwice(t *testing.T) {
	run := func() string {
		r := rand.New(rand.NewSource(77))
		x := newPair(t, 900)
		var told []any
		for range 300 {
			name, e := drawnCall(r, x)
			told = append(told, name, int(e), x.a.Refs(), words(x.a))
		}
		return fmt.Sprint(told...)
	}
	if run() != run() {
		t.Error("not the same")
	}
}

// Whatever is called, both agree, at every place.
func FuzzArena(f *testing.F) {
	f.Add(uint16(100), []byte{0, 3, 1, 254, 3, 0, 2, 4, 5, 20, 0, 2, 10, 7, 0, 1, 6, 60})
	f.Add(uint16(8), []byte{0, 0, 0, 0, 10, 0, 60, 0, 4})
	f.Add(uint16(0), []byte{0})
	f.Fuzz(func(t *testing.T, limit uint16, bytes []byte) {
		x := newPair(t, int(limit)%512-8)
		next := func() int {
			if len(bytes) == 0 {
				return 0
			}
			b := bytes[0]
			bytes = bytes[1:]
			return int(int8(b))
		}
		for calls := 0; len(bytes) > 0 && calls < 200; calls++ {
			switch kind := next(); {
			case kind >= 0 && kind < 10:
				c := api.Clause{}
				for range max(next(), 0) % 10 {
					c = append(c, api.Lit(next()))
				}
				x.put(int64(next()+20), c, kind%2 == 0, next()*600)
			case kind < 20:
				x.kill(Ref(next()))
			case kind < 30:
				x.shrink(Ref(next()), next())
			case kind < 40:
				x.swap(Ref(next()), next(), next())
			case kind < 50:
				x.mark(Ref(next()), next()*600, next()*600)
			default:
				x.collect()
			}
			x.agree()
		}
	})
}
