package phase

import (
	"slices"

	"threshing/api"
)

// row is a target or a best row: values of some variables. Its length is 0, if there is none.
//
// Each row that comes has a number of its own, which stands as the mark of its variables, below 0 if the value is false: so the marks of rows that were left may stay, and a row takes time by its own length alone.
type row struct {
	length int
	number int64
	marks  []int64 // of the variable v at v - 1
}

func newRow(n int) row { return row{marks: make([]int64, n)} }

// value is that of v, if it has one in the row.
func (r *row) value(v int) (bool, bool) {
	mark := r.marks[v-1]
	if r.length == 0 || mark != r.number && mark != -r.number {
		return false, false
	}
	return mark > 0, true
}

// reach lets l be the row, if it is longer, and tells whether it is.
func (r *row) reach(l []api.Lit) bool {
	if len(l) <= r.length {
		return false
	}
	r.length = len(l)
	r.number++
	for _, x := range l {
		r.marks[variable(x)-1] = r.markOf(x)
	}
	return true
}

// markOf is the mark that x gives its variable.
func (r *row) markOf(x api.Lit) int64 {
	if x < 0 {
		return -r.number
	}
	return r.number
}

// leave lets there be none.
func (r *row) leave() { r.length = 0 }

func (r *row) copy() row { return row{r.length, r.number, slices.Clone(r.marks)} }
