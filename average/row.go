package average

import (
	"iter"

	"threshing/api"
)

// Luby: P15.3.
func Luby(i int64) (int64, api.Errno) {
	if i < 1 {
		return 0, api.ErrArg
	}
	return number(i), api.OK
}

// number is the row's i-th one. What is told again has a bit fewer each time, so there is nothing to be kept.
func number(i int64) int64 {
	top := power(i)
	for i-top != top-1 {
		i -= top - 1
		top = power(i)
	}
	return top
}

// power is the greatest power of two that i is not below.
func power(i int64) int64 { return 1 << logarithm(i) }

// Row: P15.3. The place is the closure's own each time that it is ranged over, so that each time begins with the first number.
func Row() iter.Seq[int64] {
	return func(yield func(int64) bool) {
		for i := int64(1); yield(number(i)); i++ {
		}
	}
}
