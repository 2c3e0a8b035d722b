package transform

import (
	"math/bits"
	"slices"

	"attestor/field"
)

// atRoots returns the values of a polynomial with at most 2^k coefficients at the powers of Root(f, k), in their order. Each coefficient is put at the place whose bits are those of its number in the opposite order. There the coefficients with even numbers stand before those with odd ones, so do they in each half again, and so on, so that the values can take the places of the coefficients.
func atRoots(f, k int, p []uint64) []uint64 {
	out := make([]uint64, 1<<k)
	place := func(i int) int { return int(bits.Reverse64(uint64(i)) >> (64 - k)) }
	for i := range len(p) {
		out[place(i)] = field.Reduce(f, p[i])
	}
	roots := powers(f, field.Root(f, k), len(out)/2)
	for half := 1; half < len(out); half *= 2 {
		for at := 0; at < len(out); at += 2 * half {
			middle, end := at+half, at+2*half
			combine(f, out[at:middle:middle], out[middle:end:end], roots)
		}
	}
	return out
}

// fromRoots returns the 2^k coefficients of the polynomial with the values v at the powers of Root(f, k). They are found by the same sums, but for the inverses of the roots, which are the roots from the last one back, and for a factor of 2^k.
func fromRoots(f, k int, v []uint64) []uint64 {
	out := atRoots(f, k, v)
	slices.Reverse(out[1:])
	factor := field.Inv(f, 1<<k)
	for i, x := range out {
		out[i] = field.Mul(f, x, factor)
	}
	return out
}

// powers returns n powers of an element, from 1 on.
func powers(f int, w uint64, n int) []uint64 {
	out := make([]uint64, n)
	power := uint64(1)
	for i := range out {
		out[i] = power
		power = field.Mul(f, power, w)
	}
	return out
}

// combine makes of the values of two polynomials a and b at n points those of a(X^2) + X b(X^2) at 2 n points. The second n points are the first ones times -1, so that one product serves two points.
//
// Most of the time of a transform is spent here, so that elements are added and subtracted without calls: a difference below 0 wraps around and is then far above P, so that of two numbers that differ by P the lesser one is the element.
func combine(f int, a, b, roots []uint64) {
	p := field.P(f)
	step := len(roots) / len(a)
	for i, x := range a {
		y := roots[i*step] * b[i] % p
		a[i], b[i] = min(x+y, x+y-p), min(x-y, x-y+p)
	}
}
