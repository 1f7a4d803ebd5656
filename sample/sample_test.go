package sample

import (
	"math/rand"
	"slices"
	"testing"

	"threshing/api"
	"threshing/base"
)

// All kinds of what may stand in a base come out of some bytes, and the same bytes make the same base.
func TestBase(t *testing.T) {
	r := rand.New(rand.NewSource(2))
	kinds := map[uint8]int{}
	red, empty, most := 0, 0, 0
	for range 500 {
		data := make([]byte, r.Intn(160))
		r.Read(data)
		f, b := Base(data)
		g, c := Base(data)
		if f.Vars < 1 || f.Vars > Most || g.Vars != f.Vars || !slices.EqualFunc(f.Clauses, g.Clauses, slices.Equal[api.Clause]) || len(b.Steps()) != len(c.Steps()) {
			t.Fatal(f, g)
		}
		if h := Formula(data); h.Vars != f.Vars || len(h.Clauses) != len(f.Clauses) {
			t.Fatal(f, h)
		}
		for _, x := range b.Rules() {
			kinds[x.Kind]++
		}
		for _, x := range b.Entries() {
			if x.Red {
				red++
			}
			if len(x.Lits) == 0 {
				empty++
			}
			most = max(most, len(x.Lits))
		}
		if len(b.Stack()) == 0 && !Taken(f, b) {
			t.Fatal(f, b.Steps())
		}
	}
	if len(kinds) < 5 || red < 300 || empty < 5 || most < 4 {
		t.Error(kinds, red, empty, most)
	}
}

// What another base did is not taken as this formula's proof.
func TestNotTaken(t *testing.T) {
	f := api.Formula{Vars: 2, Clauses: []api.Clause{{1, 2}, {-1, 2}}}
	g := api.Formula{Vars: 2, Clauses: []api.Clause{{1, 2}, {1, 2}}}
	b, _ := base.New(f)
	b.Add(api.Clause{2}, []int64{1, 2}, false)
	if !Taken(f, b) || Taken(g, b) || Taken(api.Formula{Vars: -1}, b) {
		t.Error(b.Steps())
	}
}

// A full base has room for just so many steps.
func TestFull(t *testing.T) {
	for room := range 2 {
		b := Full(api.Formula{Vars: 1}, room)
		for range room {
			if _, e := b.Add(api.Clause{1, -1}, nil, false); e != api.OK {
				t.Error(e)
			}
		}
		if _, e := b.Add(api.Clause{1, -1}, nil, false); e != api.ErrLimit {
			t.Error(e)
		}
	}
	if Full(api.Formula{Vars: -1}, 1) != nil {
		t.Error("a base of a formula that is none")
	}
}

// Models, by their numbers.
func TestModels(t *testing.T) {
	b, _ := base.New(api.Formula{Vars: 2, Clauses: []api.Clause{{1, -2}, {-1, 2}}})
	b.Add(api.Clause{-1, 2, 1}, nil, true)
	if all := Models(b, true); !slices.Equal(all, []bool{true, false, false, true}) {
		t.Error(all)
	}
	b.Delete(3)
	b.Weaken(1, api.Clause{-2})
	if some := Models(b, false); !slices.Equal(some, []bool{true, false, true, true}) {
		t.Error(some)
	}
	if m := Model(2, 2); !slices.Equal(m, api.Model{false, true}) {
		t.Error(m)
	}
}
