package phase

import (
	"fmt"
	"math"
	"slices"
	"testing"

	"threshing/api"
)

// The chapter's examples.
func TestExamples(t *testing.T) {
	s, e := New(3, true, 0)
	for i, y := range []struct{ got, want string }{
		{fmt.Sprint(int(e)), "0"},
		{decided(s.Decide(2)), "true 0"},
		{fmt.Sprint(int(s.Save([]api.Lit{-2}))), "0"},
		{decided(s.Decide(2)), "false 0"},
		{decided(s.Decide(4)), "false 2"},
		{fmt.Sprint(int(s.Save([]api.Lit{4}))), "2"},
		{reached(s.Reach([]api.Lit{2, -1})), "true true 0"},
		{decided(s.Decide(1)), "false 0"},
		{decided(s.Decide(2)), "true 0"},
		{reached(s.Reach([]api.Lit{3, 1})), "false false 0"},
		{turned(s.Turn()), "original 0"},
		{decided(s.Decide(1)), "true 0"},
		{reached(s.Reach([]api.Lit{-3})), "true false 0"},
		{decided(s.Decide(3)), "false 0"},
	} {
		if y.got != y.want {
			t.Errorf("%d: %s, want %s", i, y.got, y.want)
		}
	}
	s, _ = New(3, true, 0)
	if a, b := s.Draw(), s.Draw(); a != 1082269761 || b != 1152992998833853505 {
		t.Error(a, b)
	}
}

// Each line of the examples of a store of its own; and the plain one must tell the same, if it is to stand for the chapter.
func TestExamplesPlain(t *testing.T) {
	x := newPair(t, 3, true, 0)
	x.like("Decide, Save", telling(decided(x.decide(2)), int(x.save(-2)), decided(x.decide(2)), decided(x.decide(4)), int(x.save(4))), telling("true 0", 0, "false 0", "false 2", 2))
	x.agree()
	for _, y := range []*pair{x, newPair(t, 3, true, 0)} {
		y.like("Reach", telling(reached(y.reach(2, -1)), decided(y.decide(1)), decided(y.decide(2)), reached(y.reach(3, 1))), telling("true true 0", "false 0", "true 0", "false false 0"))
		y.agree()
		y.like("Turn", telling(turned(y.turn()), decided(y.decide(1)), reached(y.reach(-3)), decided(y.decide(3))), telling("original 0", "true 0", "true false 0", "false 0"))
		y.agree()
	}
	y := newPair(t, 3, true, 0)
	y.like("Turn", telling(turned(y.turn()), decided(y.decide(1)), reached(y.reach(-3)), decided(y.decide(3))), telling("original 0", "true 0", "true true 0", "false 0"))
	y = newPair(t, 3, true, 0)
	y.like("Draw", telling(y.draw(), y.draw()), telling(1082269761, 1152992998833853505))
	y.agree()
}

// The kinds have the numbers that the chapter's order gives them.
func TestKinds(t *testing.T) {
	if got := fmt.Sprint([]any{Original, Inverted, Best, Walk, Random}); got != "[0 1 2 3 4]" {
		t.Error(got)
	}
}

// seeds are those at the edges, and some others.
func seeds() []uint64 {
	return []uint64{0, 1, 2, 7, 1 << 31, 1 << 32, 1 << 63, math.MaxUint64, math.MaxUint64 - 1}
}

// P14.1: how many variables there may be, and what a new store is.
func TestNew(t *testing.T) {
	for _, n := range []int{math.MinInt, math.MinInt + 1, -1 << 32, -1<<32 + 4, -api.MaxVar, -2, -1, 1048577, 1048578, 1 << 31, 1 << 32, 1<<32 + 4, 1 << 62, math.MaxInt} {
		for _, start := range []bool{false, true} {
			if s, e := New(n, start, 1); s != nil || e != api.ErrArg {
				t.Errorf("New(%d): %v %d", n, s, e)
			}
			if s, e := New(n, start, 0); s != nil || e != api.ErrArg {
				t.Errorf("New(%d): %v %d", n, s, e)
			}
		}
	}
	for _, n := range []int{0, 1, 2, 3, 100} {
		for _, start := range []bool{false, true} {
			for _, seed := range seeds() {
				x := newPair(t, n, start, seed)
				x.agree()
				if got := x.s.Saved(); len(got) != n || slices.Contains(got, !start) {
					t.Errorf("New(%d, %v, %d): %v", n, start, seed, got)
				}
				x.draw()
				x.turns(9)
			}
		}
	}
}

// P14.1: just as many as there may be, and one fewer.
func TestNewGreat(t *testing.T) {
	for _, n := range []int{1048575, 1048576} {
		for _, start := range []bool{false, true} {
			s, e := New(n, start, 0)
			if e != api.OK || len(s.Saved()) != n || slices.Contains(s.Saved(), !start) {
				t.Fatalf("New(%d): %d", n, e)
			}
			last := api.Lit(n)
			got := telling(decided(s.Decide(n)), decided(s.Decide(n+1)), int(s.Save([]api.Lit{last})), decided(s.Decide(n)), int(s.Save([]api.Lit{-last})), decided(s.Decide(n)), int(s.Save([]api.Lit{last + 1})), reached(s.Reach([]api.Lit{-last - 1})), reached(s.Reach([]api.Lit{last})), decided(s.Decide(n)), s.Draw())
			if got != telling(decided(start, 0), "false 2", 0, "true 0", 0, "false 0", 2, "false false 2", "true true 0", "true 0", 1082269761) {
				t.Errorf("New(%d): %s", n, got)
			}
		}
	}
}

// P14.1: a store of no variables has none, whatever is called; but it is turned, and draws.
func TestNoVariables(t *testing.T) {
	for _, start := range []bool{false, true} {
		x := newPair(t, 0, start, 0)
		for _, v := range append(far(0), 1) {
			x.like(fmt.Sprint(v), decided(x.decide(v)), "false 2")
		}
		for _, l := range append(wrongLits(0), 1, -1) {
			x.like(fmt.Sprint(l), telling(int(x.save(l)), int(x.save(l, l)), reached(x.reach(l)), reached(x.reach(l, l))), telling(2, 2, "false false 2", "false false 2"))
		}
		x.like("none", telling(int(x.save()), reached(x.reach()), len(x.s.Saved())), telling(0, "false false 0", 0))
		x.agree()
		x.turns(20)
		x.like("Draw", telling(x.draw(), x.draw()), telling(1082269761, 1152992998833853505))
		x.copy().agree()
		if x.s.Copy() == x.s {
			t.Error("the same one")
		}
	}
}

// P14.1: of a nil store calls with an error answer ErrNil, whatever else is wrong; all else nothing.
func TestNil(t *testing.T) {
	var s *Phases
	for _, v := range append(far(3), 1, 2, 3, api.MaxVar) {
		if got := decided(s.Decide(v)); got != "false 1" {
			t.Errorf("Decide(%d): %s", v, got)
		}
	}
	for _, l := range append(wrongLits(3), 1, -1, 3) {
		for _, list := range [][]api.Lit{{l}, {l, l}, {1, l}} {
			if got := telling(int(s.Save(list)), reached(s.Reach(list))); got != telling(1, "false false 1") {
				t.Errorf("%v: %s", list, got)
			}
		}
	}
	for range 3 {
		got := telling(int(s.Save(nil)), int(s.Save([]api.Lit{})), reached(s.Reach(nil)), reached(s.Reach([]api.Lit{})), turned(s.Turn()), len(s.Saved()), s.Draw(), s.Copy() == nil)
		if got != telling(1, 1, "false false 1", "false false 1", "original 1", 0, 0, true) {
			t.Error(got)
		}
	}
}

// A store that was not made by New has no variables: no call of it panics.
func TestNotMade(t *testing.T) {
	s := &Phases{}
	for range 10 {
		for _, v := range []int{-1, 0, 1} {
			l := []api.Lit{api.Lit(v)}
			if got := telling(decided(s.Decide(v)), int(s.Save(l)), reached(s.Reach(l))); got != telling("false 2", 2, "false false 2") {
				t.Error(v, got)
			}
		}
		if got := telling(int(s.Save(nil)), reached(s.Reach(nil)), len(s.Saved())); got != telling(0, "false false 0", 0) {
			t.Error(got)
		}
		if _, e := s.Turn(); e != api.OK {
			t.Error(e)
		}
		s.Draw()
		s = s.Copy()
	}
}

// P14.2: which variables there are: 1 to n, and no others; in the target row, and not.
func TestDecide(t *testing.T) {
	for n := range 6 {
		for _, start := range []bool{false, true} {
			x := newPair(t, n, start, 3)
			for _, v := range far(n) {
				x.like(fmt.Sprintf("%d of %d", v, n), decided(x.decide(v)), "false 2")
			}
			for v := 1; v <= n; v++ {
				x.like(fmt.Sprintf("%d of %d", v, n), decided(x.decide(v)), decided(start, 0))
			}
			for v := 1; v <= n; v++ {
				l := slices.Repeat([]api.Lit{api.Lit(v), api.Lit(-v)}, v)
				x.reach(l...)
				x.like(fmt.Sprintf("%d of %d", v, n), decided(x.decide(v)), "false 0")
				x.reach(append(l, api.Lit(v))...)
				x.like(fmt.Sprintf("%d of %d", v, n), decided(x.decide(v)), "true 0")
				for _, w := range far(n) {
					x.like(fmt.Sprintf("%d of %d", w, n), decided(x.decide(w)), "false 2")
				}
				x.agree()
			}
		}
	}
}

// P14.2: what is in the target row goes ahead of what is saved, and that which is saved is saved nonetheless: it is seen when there is no such row any more.
func TestDecideTarget(t *testing.T) {
	x := newPair(t, 3, true, 0)
	x.reach(-1, 3)
	x.like("target", bits(deciding(x)), "-++")
	x.save(1, -2, -3)
	x.like("saved too", telling(bits(deciding(x)), bits(x.s.Saved())), telling("--+", "+--"))
	x.agree()
	x.turns(3)
	x.like("best", telling(bits(deciding(x)), bits(x.s.Saved())), telling("--+", "--+"))
	x.save(1, 2, -3)
	x.like("saved", telling(bits(deciding(x)), bits(x.s.Saved())), telling("++-", "++-"))
	x.agree()
}

// deciding is what Decide tells of all variables.
func deciding(x *pair) []bool {
	var all []bool
	for v := 1; v <= x.p.n; v++ {
		value, _ := x.decide(v)
		all = append(all, value)
	}
	return all
}

// P14.2: Save of none, of one, of some, of a variable that is there twice and more, with both signs.
func TestSave(t *testing.T) {
	x := newPair(t, 4, false, 9)
	for i, y := range []struct {
		l    []api.Lit
		want string
	}{
		{nil, "----"},
		{[]api.Lit{}, "----"},
		{[]api.Lit{2}, "-+--"},
		{[]api.Lit{2}, "-+--"},
		{[]api.Lit{-2}, "----"},
		{[]api.Lit{4, 1}, "+--+"},
		{[]api.Lit{-1, 1}, "+--+"},
		{[]api.Lit{1, -1}, "---+"},
		{[]api.Lit{3, -4, -3, 4, -4}, "----"},
		{[]api.Lit{1, 2, 3, 4}, "++++"},
		{[]api.Lit{-4, -3, -4, 3, 2, -2, 2}, "+++-"},
		{nil, "+++-"},
		{[]api.Lit{1, -1, 1, -1, 1, -1, 1}, "+++-"},
		{[]api.Lit{-1, -2, -3, -4}, "----"},
	} {
		x.like(fmt.Sprint(i), telling(int(x.save(y.l...)), bits(x.s.Saved()), bits(deciding(x))), telling(0, y.want, y.want))
		x.agree()
	}
}

// P14.2, P14.3: a literal of no variable of it, alone and among right ones, wherever it stands there.
func TestWrongLiterals(t *testing.T) {
	for n := range 5 {
		for _, wrong := range wrongLits(n) {
			x := newPair(t, n, true, 5)
			var all []api.Lit
			for v := 1; v <= n; v++ {
				all = append(all, api.Lit(-v))
			}
			x.like(fmt.Sprintf("%d of %d", wrong, n), telling(int(x.save(wrong)), int(x.save(wrong, wrong)), reached(x.reach(wrong)), reached(x.reach(wrong, wrong))), telling(2, 2, "false false 2", "false false 2"))
			for at := range n + 1 {
				l := slices.Insert(slices.Clone(all), at, wrong)
				x.like(fmt.Sprintf("%d at %d of %d", wrong, at, n), telling(int(x.save(l...)), reached(x.reach(l...)), bits(x.s.Saved())), telling(2, "false false 2", bits(slices.Repeat([]bool{true}, n))))
				x.agree()
			}
			for at := range n + 1 { // one that is no longer than the rows is wrong too
				x.reach(slices.Repeat([]api.Lit{1}, n+5)...)
				l := slices.Insert(slices.Clone(all), at, wrong)
				x.like(fmt.Sprintf("%d at %d of %d", wrong, at, n), reached(x.reach(l...)), "false false 2")
				x.agree()
			}
		}
		x := newPair(t, n, true, 5)
		for v := api.Lit(1); int(v) <= n; v++ {
			x.like(fmt.Sprintf("%d of %d", v, n), telling(int(x.save(-v)), bits(x.s.Saved()[v-1:v]), int(x.save(v)), bits(x.s.Saved()[v-1:v])), telling(0, "-", 0, "+"))
			x.agree()
		}
	}
}

// P14.3: Reach of none, of rows as long as the target row, shorter and longer; what was in it and is not in the new one has its saved value again.
func TestReach(t *testing.T) {
	x := newPair(t, 4, true, 2)
	for i, y := range []struct {
		l          []api.Lit
		said, want string
	}{
		{nil, "false false 0", "++++"},
		{[]api.Lit{}, "false false 0", "++++"},
		{[]api.Lit{-2}, "true true 0", "+-++"},
		{nil, "false false 0", "+-++"},
		{[]api.Lit{-1}, "false false 0", "+-++"},
		{[]api.Lit{2}, "false false 0", "+-++"},
		{[]api.Lit{-4, -1}, "true true 0", "-++-"},
		{[]api.Lit{-2}, "false false 0", "-++-"},
		{[]api.Lit{-2, -3}, "false false 0", "-++-"},
		{[]api.Lit{1, -2, 4}, "true true 0", "+-++"},
		{[]api.Lit{-1, -2}, "false false 0", "+-++"},
		{[]api.Lit{-1, -3, -4}, "false false 0", "+-++"},
		{[]api.Lit{-1, -2, -3, -4}, "true true 0", "----"},
		{[]api.Lit{1, 2, 3, 4}, "false false 0", "----"},
	} {
		x.like(fmt.Sprint(i), telling(reached(x.reach(y.l...)), bits(deciding(x)), bits(x.s.Saved())), telling(y.said, y.want, "++++"))
		x.agree()
	}
}

// P14.3: a variable that is there twice and more: the last one of it counts; but the row is as long as all of it.
func TestReachTwice(t *testing.T) {
	x := newPair(t, 3, false, 2)
	for i, y := range []struct {
		l          []api.Lit
		said, want string
	}{
		{[]api.Lit{1, -1}, "true true 0", "---"},
		{[]api.Lit{1, 2}, "false false 0", "---"},
		{[]api.Lit{1, -1, 1}, "true true 0", "+--"},
		{[]api.Lit{3, 2, 1}, "false false 0", "+--"},
		{[]api.Lit{3, 3, 3, 3, 3}, "true true 0", "--+"},
		{[]api.Lit{1, 2, 1, 2}, "false false 0", "--+"},
		{[]api.Lit{1, 2, 1, 2, 1}, "false false 0", "--+"},
		{[]api.Lit{-1, 2, 1, -2, 3, -3}, "true true 0", "+--"},
		{[]api.Lit{1, 1, 1, -2, -3, 2, 2}, "true true 0", "++-"},
	} {
		x.like(fmt.Sprint(i), telling(reached(x.reach(y.l...)), bits(deciding(x)), bits(x.s.Saved())), telling(y.said, y.want, "---"))
		x.agree()
	}
}

// P14.3, P14.4: behind a turn there is no target row: one may be new that is no new best row; and that is still the one of before.
func TestReachBehindTurn(t *testing.T) {
	x := newPair(t, 4, false, 2)
	x.reach(1, 2, -3)
	for _, k := range []string{"original 0", "inverted 0"} {
		x.like("Turn", turned(x.turn()), k)
		x.like("target alone", telling(reached(x.reach(4)), reached(x.reach(4, -4)), reached(x.reach(-4, 3, -4)), reached(x.reach(1, 2, 3))), telling("true false 0", "true false 0", "true false 0", "false false 0"))
		x.agree()
	}
	x.like("Turn", telling(turned(x.turn()), bits(x.s.Saved())), telling("best 0", "++-+"))
	x.like("both", telling(reached(x.reach(-1)), reached(x.reach(-2)), bits(deciding(x))), telling("true true 0", "false false 0", "-+-+"))
	x.agree()
	x.turn() // walk
	x.like("target alone", telling(reached(x.reach(-3)), reached(x.reach(3, -4))), telling("true false 0", "true true 0"))
	x.agree()
	x.turn() // original
	x.like("Turn", telling(turned(x.turn()), bits(x.s.Saved())), telling("best 0", "--+-"))
	x.agree()
}

// P14.4: the schedule, through and round again, with a best row and without one, and what is saved and drawn behind each turn, by numbers that were worked out elsewhere.
func TestSchedule(t *testing.T) {
	kinds := []string{"original 0", "inverted 0", "best 0", "walk 0", "original 0", "best 0", "random 0", "inverted 0", "best 0", "walk 0", "original 0", "best 0", "random 0", "inverted 0", "best 0", "walk 0"}
	for _, y := range []struct {
		start         bool
		seed          uint64
		walks, chance []string
		states        []uint64 // behind each walk and each random turn
	}{
		{true, 0,
			[]string{"--------------------+---", "------------+-+-+-----++", "---+---+---+--+---------"},
			[]string{"--++-------+--+++++-+---", "-++-++-++--+++--++++----"},
			[]uint64{7244712798012994009, 1119185585575558790, 8834880621765712672, 14179695510738259714, 9679433048092680303}},
		{false, 7,
			[]string{"++++++++++++++++++++++++", "++++++++-+--++++++-+-+++", "-++++-++++++++++++++++-+"},
			[]string{"+-+++-++--+---+--++-++--", "++-+-+++---++--+-+-----+"},
			[]uint64{4640290336483258284, 4624489766303157826, 778822259033914366, 5340466420092767667, 9523131250299811271}},
	} {
		x := newPair(t, 24, y.start, y.seed)
		original, inverted := bits(slices.Repeat([]bool{y.start}, 24)), bits(slices.Repeat([]bool{!y.start}, 24))
		was, state := original, max(y.seed, 1)
		for i, want := range kinds {
			x.like(fmt.Sprint("turn ", i), turned(x.turn()), want)
			switch want {
			case "original 0":
				was = original
			case "inverted 0":
				was = inverted
			case "walk 0":
				was, y.walks = y.walks[0], y.walks[1:]
				state, y.states = y.states[0], y.states[1:]
			case "random 0":
				was, y.chance = y.chance[0], y.chance[1:]
				state, y.states = y.states[0], y.states[1:]
			}
			x.like(fmt.Sprint("saved behind turn ", i), bits(x.s.Saved()), was)
			x.like(fmt.Sprint("state behind turn ", i), x.s.state, state)
			x.agree()
		}
	}
}

// P14.4: the best turn takes the best row's values where it has some; the row is none then, and the next best turn without one changes nothing.
func TestBest(t *testing.T) {
	x := newPair(t, 5, true, 11)
	x.reach(-2, 4, -5)
	x.save(-4, -1)
	x.turn()
	x.turn()
	x.save(1)
	x.like("Best", telling(bits(x.s.Saved()), turned(x.turn()), bits(x.s.Saved())), telling("+----", "best 0", "+--+-"))
	x.agree()
	x.turn()
	x.turn()
	x.save(-3)
	x.like("without one", telling(turned(x.turn()), bits(x.s.Saved())), telling("best 0", "++-++"))
	x.agree()
	x.like("a new one", reached(x.reach(-1)), "true true 0")
	x.turn() // random
	x.turn() // inverted
	x.save(1, 2)
	x.like("Best", telling(turned(x.turn()), bits(x.s.Saved())), telling("best 0", "-+---"))
	x.like("behind it", telling(reached(x.reach(3)), bits(deciding(x))), telling("true true 0", "-++--"))
	x.agree()
}

// P14.4: the best turn takes the best row, not the target row, if they are two.
func TestBestNotTarget(t *testing.T) {
	x := newPair(t, 4, false, 11)
	x.reach(1, 2)
	x.turn()
	x.turn()
	x.reach(-2)
	x.save(-1, -2, -3, -4)
	x.like("Best", telling(bits(deciding(x)), turned(x.turn()), bits(deciding(x)), bits(x.s.Saved())), telling("----", "best 0", "++--", "++--"))
	x.agree()
}

// P14.4: a best row whose variable is there twice, and one in the place of a shorter one, which had others.
func TestBestRows(t *testing.T) {
	x := newPair(t, 5, false, 11)
	x.reach(5, 4)
	x.reach(1, -1, 2, -2, 2)
	x.turn()
	x.turn()
	x.save(1, -2, -4, -5)
	x.like("Best", telling(turned(x.turn()), bits(x.s.Saved())), telling("best 0", "-++--"))
	x.agree()
}

// P14.4: how many draws each kind of turn takes: one for each variable, or none.
func TestDrawsOfTurns(t *testing.T) {
	for _, n := range []int{0, 1, 2, 7, 64} {
		for _, with := range []bool{false, true} {
			x := newPair(t, n, true, 77)
			for i := range 16 {
				if with && n > 0 {
					x.reach(slices.Repeat([]api.Lit{-1}, i+1)...)
				}
				other := x.s.Copy()
				k, _ := x.turn()
				for range map[Kind]int{Walk: n, Random: n}[k] {
					other.Draw()
				}
				for range 3 {
					x.like(fmt.Sprintf("Draw behind turn %d of %d", i, n), x.draw(), other.Draw())
				}
			}
		}
	}
}

// P14.4: what is drawn of each seed, by numbers that were worked out elsewhere; 0 is as 1.
func TestDraw(t *testing.T) {
	for seed, want := range map[uint64][4]uint64{
		0:                  {1082269761, 1152992998833853505, 11177516664432764457, 17678023832001937445},
		1:                  {1082269761, 1152992998833853505, 11177516664432764457, 17678023832001937445},
		2:                  {2164539522, 2305985997667575939, 3908431074842011666, 8836381484286226498},
		7:                  {7575888327, 8070950887952051652, 13931920357059763743, 8698583309276795107},
		42:                 {45454805674, 11532217803599905471, 10021416941527320954, 2899061411254629736},
		1 << 31:            {2324158813512400896, 1299297290737025024, 238562364109227008, 8326100181992865800},
		1 << 32:            {4648317627024801792, 2598594581474050048, 477124728218454016, 16508085175909875728},
		1 << 63:            {9295429630892703744, 9223934986808197120, 14520172546642411520, 9799832823517937664},
		1<<63 + 1:          {9295429631974973505, 10376927985642050625, 5952773748683056681, 9031112581810323493},
		math.MaxUint64 - 1: {2130853761, 2305841875610762174, 11246403250737064905, 14358409564433747934},
		math.MaxUint64:     {1065361344, 1152851127339773951, 508277857751731680, 3609534427018334203},
		88172645463325252:  {8748534153485358512, 3040900993826735515, 3453997556048239312, 16431732851926010853},
	} {
		for _, n := range []int{0, 3} {
			x := newPair(t, n, seed%2 == 0, seed)
			x.like(fmt.Sprint(seed), [4]uint64{x.draw(), x.draw(), x.draw(), x.draw()}, want)
			x.agree()
		}
	}
}

// P14.4: Draw behind each kind of call, those that answer an error included: none of them draws but a turn.
func TestDrawBehind(t *testing.T) {
	for i, call := range []func(x *pair){
		func(x *pair) {},
		func(x *pair) { x.decide(1) },
		func(x *pair) { x.decide(0) },
		func(x *pair) { x.save() },
		func(x *pair) { x.save(-1, 3) },
		func(x *pair) { x.save(4) },
		func(x *pair) { x.reach() },
		func(x *pair) { x.reach(1, -2) },
		func(x *pair) { x.reach(1, 0) },
		func(x *pair) { x.s.Saved() },
		func(x *pair) { x.s.Copy().Draw() },
		func(x *pair) { x.s.Copy().Turn() },
		func(x *pair) { *x = *x.copy() },
	} {
		for turns := range 9 {
			x := newPair(t, 3, true, 5)
			for range turns {
				x.turn()
			}
			other := x.s.Copy()
			call(x)
			x.like(fmt.Sprint(i), x.draw(), other.Draw())
			x.agree()
		}
	}
}

// P14.4: the saved values, in order, behind each kind of call.
func TestSaved(t *testing.T) {
	for i, y := range []struct {
		call func(x *pair)
		want string
	}{
		{func(x *pair) {}, "+-+"},
		{func(x *pair) { x.decide(2) }, "+-+"},
		{func(x *pair) { x.draw() }, "+-+"},
		{func(x *pair) { x.save(2, -3) }, "++-"},
		{func(x *pair) { x.save(2, -3, 4) }, "+-+"},
		{func(x *pair) { x.save(0, 2) }, "+-+"},
		{func(x *pair) { x.reach(2, -3, -1) }, "+-+"},
		{func(x *pair) { x.reach(-4) }, "+-+"},
		{func(x *pair) { x.turn() }, "+++"},
		{func(x *pair) { x.turn(); x.turn() }, "---"},
		{func(x *pair) { x.s.Copy().Turn() }, "+-+"},
		{func(x *pair) { *x = *x.copy() }, "+-+"},
	} {
		x := newPair(t, 3, true, 5)
		x.save(-2)
		y.call(x)
		x.like(fmt.Sprint(i), bits(x.s.Saved()), y.want)
		x.agree()
	}
}

// P14.4: a copy is the same: it decides, saves, reaches, turns and draws on as the first one does.
func TestCopy(t *testing.T) {
	for turns := range 15 {
		for _, l := range [][]api.Lit{nil, {-2}, {1, -3, 5, 1}} {
			x := newPair(t, 5, turns%2 == 0, uint64(turns))
			x.reach(l...)
			x.turns(turns)
			x.save(3, -4)
			x.reach(l...)
			y := x.copy()
			if x.s == y.s {
				t.Fatal("the same one")
			}
			for i := range 9 {
				x.agree()
				y.agree()
				x.like("alike", telling(turned(x.turn()), x.draw(), bits(x.s.Saved()), reached(x.reach(l...))), telling(turned(y.turn()), y.draw(), bits(y.s.Saved()), reached(y.reach(l...))))
				if i == 4 {
					y = y.copy()
				}
			}
		}
	}
}

// P14.4: what is done to one of two is not seen in the other: each kind of call, of the first or of its copy, the generator too.
func TestCopyApart(t *testing.T) {
	calls := []func(x *pair){
		func(x *pair) { x.save(1, -2, 3, -4, 5) },
		func(x *pair) { x.save(-1, 2, 6) },
		func(x *pair) { x.reach(-1, -2, -3) },
		func(x *pair) { x.reach(1, 2, 3, 4, 5, -1) },
		func(x *pair) { x.reach(4) },
		func(x *pair) { x.turn() },
		func(x *pair) { x.turns(2) },
		func(x *pair) { x.turns(3) },
		func(x *pair) { x.turns(4) },
		func(x *pair) { x.turns(7) },
		func(x *pair) { x.draw() },
	}
	for _, first := range calls {
		for _, second := range calls {
			x := newPair(t, 5, true, 21)
			x.save(-3)
			x.reach(-4, 2)
			y := x.copy()
			first(x)
			y.agree()
			x.agree()
			second(y)
			x.agree()
			y.agree()
			first(y)
			second(x)
			x.agree()
			y.agree()
			x.turns(8)
			y.agree()
			y.draw()
			x.turns(1)
			y.turns(9)
			x.agree()
		}
	}
}
