package extend

import (
	"slices"

	"threshing/api"
)

// plain is the chapter's words, said plainly: what is true stands as a set of literals, in 64 bits, and the last witness is taken off till none is left.
func plain(m api.Model, stack []api.Witness) (api.Model, api.Errno) {
	for _, w := range stack {
		for _, l := range slices.Concat(w.Lits, w.Clause) {
			if l == 0 || int64(l) > int64(len(m)) || -int64(l) > int64(len(m)) {
				return nil, api.ErrLit
			}
		}
	}
	isTrue := map[int64]bool{}
	for i, value := range m {
		isTrue[int64(i)+1], isTrue[-int64(i)-1] = value, !value
	}
	for len(stack) > 0 {
		last := stack[len(stack)-1]
		stack = stack[:len(stack)-1]
		if slices.ContainsFunc(last.Clause, func(l api.Lit) bool { return isTrue[int64(l)] }) {
			continue
		}
		for _, l := range last.Lits {
			isTrue[int64(l)], isTrue[-int64(l)] = true, false
		}
	}
	answer := make(api.Model, len(m))
	for i := range answer {
		answer[i] = isTrue[int64(i)+1]
	}
	return answer, api.OK
}

// clauseTrue is chapter 1's definition, word by word.
func clauseTrue(c api.Clause, m api.Model) bool {
	for _, l := range c {
		if l > 0 && int(l) <= len(m) && m[l-1] || l < 0 && -int(l) <= len(m) && !m[-int(l)-1] {
			return true
		}
	}
	return false
}

func allTrue(l []api.Clause, m api.Model) bool {
	return !slices.ContainsFunc(l, func(c api.Clause) bool { return !clauseTrue(c, m) })
}

// made is a model in which these literals were made true.
func made(m api.Model, lits api.Clause) api.Model {
	m = slices.Clone(m)
	for _, l := range lits {
		if l > 0 {
			m[l-1] = true
		} else {
			m[-l-1] = false
		}
	}
	return m
}

// modelsOf tells all models of so many variables.
func modelsOf(vars int) []api.Model {
	var all []api.Model
	for k := range 1 << vars {
		m := make(api.Model, vars)
		for v := range vars {
			m[v] = k>>v&1 == 1
		}
		all = append(all, m)
	}
	return all
}

// isGood is chapter 32's word: in every model of the others in which the clause is not true, the witness makes it true and leaves the others so.
func isGood(others []api.Clause, w api.Witness, vars int) bool {
	for _, m := range modelsOf(vars) {
		if !allTrue(others, m) || clauseTrue(w.Clause, m) {
			continue
		}
		if n := made(m, w.Lits); !clauseTrue(w.Clause, n) || !allTrue(others, n) {
			return false
		}
	}
	return true
}

// rowsUpTo tells every row of at most n of these.
func rowsUpTo[T any](n int, of ...T) [][]T {
	all := [][]T{nil}
	last := all
	for range n {
		var next [][]T
		for _, r := range last {
			for _, x := range of {
				next = append(next, append(slices.Clone(r), x))
			}
		}
		all = append(all, next...)
		last = next
	}
	return all
}

// clausesUpTo is the same of clauses.
func clausesUpTo(n int, lits ...api.Lit) []api.Clause {
	var all []api.Clause
	for _, r := range rowsUpTo(n, lits...) {
		all = append(all, r)
	}
	return all
}

// lits is a short way to write a clause.
func lits(l ...api.Lit) api.Clause { return l }

// with is a short way to write a witness.
func with(w, c api.Clause) api.Witness { return api.Witness{Lits: w, Clause: c} }

// of is a short way to write a stack.
func of(w ...api.Witness) []api.Witness { return w }

// values is a short way to write a model.
func values(v ...bool) api.Model { return v }
