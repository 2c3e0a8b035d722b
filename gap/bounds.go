package gap

import (
	"attestor/api"
	"attestor/field"
	"attestor/ratio"
)

// The greatest numbers of the bounds. No numerator or denominator of a bound comes near the limit of a fraction, so that the functions of package ratio return no errors here.
const (
	mostFibres  = 32
	mostColumns = 64
	mostTuples  = 1000
	mostWidth   = 64
)

// Bound returns a bound for the part of the challenges that pass.
func Bound(f, fibres, t, columns, queries int) (api.Ratio, api.Errno) {
	if !field.Valid(f) {
		return api.Ratio{}, api.ErrArg
	}
	if !isFrom(fibres, 1, mostFibres) || !isFrom(t, 0, fibres) || !isFrom(columns, 1, mostColumns) || !isFrom(queries, 0, maxQueries) {
		return api.Ratio{}, api.ErrRange
	}
	bad := subsets(fibres, t+1) * uint64(columns-1+7)
	challenges, _ := ratio.Of(bad, field.P(f))
	positions := allIn(t, fibres, queries)
	sum, _ := ratio.Add(challenges, positions)
	return atMostOne(sum), api.OK
}

// subsets returns the number of sets of k out of n things, which are at most mostFibres.
func subsets(n, k int) uint64 {
	c := uint64(1)
	for i := range k { // for a k above n a factor is 0
		c = c * uint64(n-i) / uint64(i+1)
	}
	return c
}

// allIn returns the part of the lists of positions that lie in t of the fibres only.
func allIn(t, fibres, queries int) api.Ratio {
	one, _ := ratio.Of(uint64(t), uint64(fibres))
	all, _ := ratio.Power(one, queries)
	return all
}

// atMostOne returns the lesser one of 1 and x.
func atMostOne(x api.Ratio) api.Ratio {
	one, _ := ratio.Of(1, 1)
	if ratio.Order(x, one) > 0 {
		return one
	}
	return x
}

// EqualBound returns a bound for the part of the challenges of Equal.
func EqualBound(f, n, width int) (api.Ratio, api.Errno) { return tuplesBound(f, n, 0, n, width) }

// FoundBound returns a bound for the part of the challenges of Found.
func FoundBound(f, n, rows, width int) (api.Ratio, api.Errno) {
	return tuplesBound(f, n, rows, n+rows-1, width)
}

// tuplesBound returns a bound for the part of the roots of a polynomial that has the given degree in the values of tuples.
func tuplesBound(f, n, rows, degree, width int) (api.Ratio, api.Errno) {
	if !field.Valid(f) {
		return api.Ratio{}, api.ErrArg
	}
	if !isFrom(n, 0, mostTuples) || !isFrom(rows, 0, mostTuples) || !isFrom(width, 1, mostWidth) {
		return api.Ratio{}, api.ErrRange
	}
	// A value is of the degree 1 in c, and of the degree width - 1 in d.
	x, _ := ratio.Of(uint64(max(0, degree)*max(1, width-1)), field.P(f))
	return atMostOne(x), api.OK
}
