package poly

import (
	"iter"

	"attestor/api"
	"attestor/field"
)

// maxPoints is the greatest number of points of Through and Vanish.
const maxPoints = 1024

// points visits the numbers of two lists of the same length in pairs.
func points(xs, ys []uint64) iter.Seq2[uint64, uint64] {
	return func(yield func(x, y uint64) bool) {
		for i, x := range xs {
			if !yield(x, ys[i]) {
				return
			}
		}
	}
}

// Through returns the polynomial through points. It goes through one point more with each step: a multiple of the product of all X - x so far changes the value at the next point, and at none before it.
func Through(f int, xs, ys []uint64) ([]uint64, api.Errno) {
	if !field.Valid(f) || len(xs) != len(ys) {
		return nil, api.ErrArg
	}
	if len(xs) > maxPoints {
		return nil, api.ErrLimit
	}
	out := make([]uint64, 0, len(xs))
	roots := one(len(xs))
	for x, y := range points(xs, ys) {
		v := Eval(f, roots, x)
		if v == 0 { // x has been visited before
			return nil, api.ErrDuplicate
		}
		s := field.Div(f, field.Sub(f, y, Eval(f, out, x)), v)
		out = append(out, 0)
		for i := range out {
			out[i] = field.Add(f, out[i], field.Mul(f, s, roots[i]))
		}
		roots = withRoot(f, roots, x)
	}
	return trim(out), api.OK
}

// Vanish returns the product of all X - x.
func Vanish(f int, xs []uint64) ([]uint64, api.Errno) {
	if !field.Valid(f) {
		return nil, api.ErrArg
	}
	if len(xs) > maxPoints {
		return nil, api.ErrLimit
	}
	out := one(len(xs))
	for _, x := range xs {
		out = withRoot(f, out, x)
	}
	return out, api.OK
}

// one returns the polynomial 1, with room for n roots.
func one(n int) []uint64 { return append(make([]uint64, 0, n+1), 1) }

// withRoot multiplies p, in its own memory, by X - x.
func withRoot(f int, p []uint64, x uint64) []uint64 {
	p = append(p, 0)
	for i := len(p) - 1; i > 0; i-- {
		p[i] = field.Sub(f, p[i-1], field.Mul(f, x, p[i]))
	}
	p[0] = field.Neg(f, field.Mul(f, x, p[0]))
	return p
}
