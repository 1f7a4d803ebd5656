// Package cnf is layer 1: literals, clauses, formulas, and what makes them true. See shared/doc/01-cnf.md.
package cnf

import (
	"cmp"
	"math"
	"slices"

	"threshing/api"
)

// few literals are looked through as they stand: to put them in order first takes longer.
const few = 16

// row is a clause that is asked what it has.
type row []api.Lit

// holds looks through a row that need not be in order.
func (r row) holds(l api.Lit) bool { return slices.Contains(r, l) }

// finds halves a row that must be in order.
func (r row) finds(l api.Lit) bool {
	_, found := slices.BinarySearchFunc(r, l, order())
	return found
}

// order compares literals: the lesser variable first, of one variable the negative literal.
func order() func(a, b api.Lit) int {
	return func(a, b api.Lit) int {
		if d := cmp.Compare(Var(a), Var(b)); d != 0 {
			return d
		}
		return cmp.Compare(a, b)
	}
}

// Right: P1.1.
func Right(f api.Formula) api.Errno {
	if f.Vars < 0 || f.Vars > api.MaxVar {
		return api.ErrArg
	}
	if len(f.Clauses) > api.MaxClauses {
		return api.ErrLimit
	}
	count := 0
	for _, c := range f.Clauses {
		for _, l := range c {
			count++
			if count > api.MaxLits {
				return api.ErrLimit
			}
			if v := Var(l); v < 1 || v > f.Vars {
				return api.ErrLit
			}
		}
	}
	return api.OK
}

// Var: P1.2. It is told as an int, since the least literal's variable is no literal.
func Var(l api.Lit) int {
	if l < 0 {
		return -int(l)
	}
	return int(l)
}

// Normal: P1.2.
func Normal(c api.Clause) (api.Clause, bool) {
	return settle(append(api.Clause(nil), c...))
}

// settle is Normal of a clause whose memory may be written over.
func settle(c api.Clause) (api.Clause, bool) {
	slices.SortFunc(c, order())
	c = slices.Compact(c)
	// A literal's negation stands right behind it now. (Neither 0 nor the least literal has one.)
	for i := 1; i < len(c); i++ {
		if Var(c[i-1]) == Var(c[i]) {
			return c, true
		}
	}
	return c, false
}

// Same: P1.3.
func Same(a, b api.Clause) bool { return Subsumes(a, b) && Subsumes(b, a) }

// Subsumes: P1.3.
func Subsumes(a, b api.Clause) bool {
	r, has := asked(b, len(a))
	for _, l := range a {
		if !has(r, l) {
			return false
		}
	}
	return true
}

// asked makes c ready to be asked so many times what it has, and tells how it is to be asked.
func asked(c api.Clause, times int) (row, func(row, api.Lit) bool) {
	if len(c) <= few || times <= few {
		return row(c), row.holds
	}
	n, _ := Normal(c)
	return row(n), row.finds
}

// Value: P1.4.
func Value(c api.Clause, m api.Model) bool {
	for _, l := range c {
		if v := Var(l); v >= 1 && v <= len(m) && m[v-1] == (l > 0) {
			return true
		}
	}
	return false
}

// Holds: P1.4.
func Holds(f api.Formula, m api.Model) bool {
	for _, c := range f.Clauses {
		if !Value(c, m) {
			return false
		}
	}
	return true
}

// Resolve: P1.5.
func Resolve(a, b api.Clause, v int) (api.Clause, bool, api.Errno) {
	if v < 1 || v > math.MaxInt32 {
		return nil, false, api.ErrArg
	}
	l, has := api.Lit(v), row.holds
	if !has(row(a), l) || !has(row(b), -l) {
		return nil, false, api.ErrArg
	}
	rest := make(api.Clause, 0, len(a)+len(b)-2)
	rest = appendBut(rest, a, l)
	rest = appendBut(rest, b, -l)
	c, both := settle(rest)
	return c, both, api.OK
}

// appendBut puts all literals of c but l behind those of to.
func appendBut(to, c api.Clause, l api.Lit) api.Clause {
	for _, x := range c {
		if x != l {
			to = append(to, x)
		}
	}
	return to
}
