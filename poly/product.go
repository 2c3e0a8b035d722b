package poly

import (
	"attestor/api"
	"attestor/field"
)

// coefficient returns the coefficient of X^k in the product of two lists of elements of a field. Most of the time of Mul and Divide is spent here, so that the sum is reduced only when the next product (below 2^60, as every P is below 2^30) could make it wrap around.
func coefficient(f int, a, b []uint64, k int) uint64 {
	p := field.P(f)
	sum := uint64(0)
	for i := max(0, k-len(b)+1); i <= min(k, len(a)-1); i++ {
		sum += a[i] * b[k-i]
		if sum >= 1<<63 {
			sum %= p
		}
	}
	return sum % p
}

// Mul returns the product.
func Mul(f int, a, b []uint64) ([]uint64, api.Errno) {
	if !field.Valid(f) {
		return nil, api.ErrArg
	}
	a, b = Normal(f, a), Normal(f, b)
	if len(a) == 0 || len(b) == 0 {
		return nil, api.OK
	}
	n := len(a) + len(b) - 1
	if n > api.MaxPoly {
		return nil, api.ErrLimit
	}
	out := make([]uint64, n)
	for k := range out {
		out[k] = coefficient(f, a, b, k)
	}
	return out, api.OK
}

// Divide returns the quotient and the remainder. A coefficient of the quotient is found from those above it, by the coefficient of a that they have not yet accounted for.
func Divide(f int, a, b []uint64) (q, r []uint64, e api.Errno) {
	if !field.Valid(f) {
		return nil, nil, api.ErrArg
	}
	a, b = Normal(f, a), Normal(f, b)
	if len(b) == 0 {
		return nil, nil, api.ErrRange
	}
	if len(a) < len(b) {
		return nil, a, api.OK
	}
	last := len(b) - 1
	inverse := field.Inv(f, b[last])
	q = make([]uint64, len(a)-last)
	for k := len(q) - 1; k >= 0; k-- {
		left := field.Sub(f, a[k+last], coefficient(f, q, b, k+last))
		q[k] = field.Mul(f, left, inverse)
	}
	r = make([]uint64, last)
	for i := range r {
		r[i] = field.Sub(f, a[i], coefficient(f, q, b, i))
	}
	return q, trim(r), api.OK
}
