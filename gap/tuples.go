package gap

import (
	"iter"
	"slices"

	"attestor/api"
	"attestor/field"
	"attestor/poly"
)

// The greatest numbers of tuples in a list, and of numbers in a tuple, with which is counted.
const (
	countedTuples = 32
	countedWidth  = 8
)

// Roots returns how many elements are roots.
func Roots(f int, p []uint64) (int, api.Errno) {
	if !field.Valid(f) {
		return 0, api.ErrArg
	}
	if !isCounted(f) {
		return 0, api.ErrRange
	}
	return count(f, func(x uint64) bool { return poly.Eval(f, p, x) == 0 }), api.OK
}

// Equal returns for how many challenges two products of tuples are equal.
func Equal(f int, left, right [][]uint64) (int, api.Errno) {
	if len(left) != len(right) {
		return 0, api.ErrArg
	}
	if e := tuplesError(f, left, right); e != api.OK {
		return 0, e
	}
	n := 0
	for l := range tupleValues(f, slices.Concat(left, right)) {
		if product(f, l[:len(left)]) == product(f, l[len(left):]) {
			n++
		}
	}
	return n, api.OK
}

// Found returns for how many challenges two sums of fractions are equal.
func Found(f int, tuples, table [][]uint64, counts []uint64) (int, api.Errno) {
	if len(counts) != len(table) {
		return 0, api.ErrArg
	}
	if e := tuplesError(f, tuples, table); e != api.OK {
		return 0, e
	}
	numerators := slices.Repeat([]uint64{1}, len(tuples))
	for _, n := range counts {
		numerators = append(numerators, field.Neg(f, n)) // the sums are equal if their difference is 0
	}
	inverses := inversesOfAll(f)
	n := 0
	for l := range tupleValues(f, slices.Concat(tuples, table)) {
		if slices.Contains(l, 0) {
			continue
		}
		for i, x := range l {
			l[i] = inverses[x]
		}
		if field.Dot(f, numerators, l) == 0 {
			n++
		}
	}
	return n, api.OK
}

// tuplesError returns the error of lists of tuples.
func tuplesError(f int, lists ...[][]uint64) api.Errno {
	longest := 0
	for _, l := range lists {
		longest = max(longest, len(l))
	}
	width, same := commonWidth(slices.Concat(lists...))
	switch {
	case !field.Valid(f) || !same:
		return api.ErrArg
	case !isCounted(f):
		return api.ErrRange
	case longest > countedTuples || width > countedWidth:
		return api.ErrLimit
	}
	return api.OK
}

// commonWidth returns the width of the tuples (0 for none), and false if they have different ones or the width 0.
func commonWidth(tuples [][]uint64) (int, bool) {
	if len(tuples) == 0 {
		return 0, true
	}
	width := len(tuples[0])
	for _, v := range tuples {
		if len(v) != width {
			return 0, false
		}
	}
	return width, width > 0
}

// tupleValues visits all pairs of challenges and yields the values of the tuples. It takes d as the first challenge of a pair: a value is then a polynomial in c that has only two coefficients, of which the second one is 1.
func tupleValues(f int, tuples [][]uint64) iter.Seq[[]uint64] {
	return values(f, func(d uint64) [][]uint64 {
		out := make([][]uint64, len(tuples))
		for i, v := range tuples {
			out[i] = []uint64{poly.Eval(f, v, d), 1}
		}
		return out
	})
}

// inversesOfAll returns the inverse of each element at its own place: there are far fewer elements than values to invert.
func inversesOfAll(f int) []uint64 {
	all := make([]uint64, field.P(f))
	for i := range all {
		all[i] = uint64(i)
	}
	return field.Inverses(f, all)
}

// product returns the product of all numbers of a list.
func product(f int, l []uint64) uint64 {
	out := uint64(1)
	for _, x := range l {
		out = field.Mul(f, out, x)
	}
	return out
}
