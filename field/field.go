// Package field computes in four prime fields. It is layer 1: see shared/doc/01-field.md.
package field

import "attestor/api"

// fields contains the numbers of each field, at its own number.
var fields = [4]api.Field{
	{P: 97, Generator: 5, Two: 5, Exponent: 5},
	{P: 257, Generator: 3, Two: 8, Exponent: 3},
	{P: 12289, Generator: 11, Two: 12, Exponent: 5},
	{P: 998244353, Generator: 3, Two: 23, Exponent: 3},
}

// Valid reports whether f is the number of a field.
func Valid(f int) bool { return f >= 0 && f < len(fields) }

// P returns the number of elements of a field.
func P(f int) uint64 {
	if !Valid(f) {
		return 0
	}
	return fields[f].P
}

// Generator returns the generator of a field.
func Generator(f int) uint64 {
	g, _ := Of(f)
	return g.Generator
}

// Twos returns how often 2 divides P - 1.
func Twos(f int) int {
	g, _ := Of(f)
	return g.Two
}

// Exponent returns the exponent of a field.
func Exponent(f int) int {
	g, _ := Of(f)
	return int(g.Exponent)
}

// Of returns the numbers of a field.
func Of(f int) (api.Field, bool) {
	if !Valid(f) {
		return api.Field{}, false
	}
	return fields[f], true
}

// Is reports whether all numbers are elements of a field.
func Is(f int, l ...uint64) bool {
	p := P(f)
	for _, n := range l {
		if n >= p {
			return false
		}
	}
	return Valid(f)
}

// Reduce returns n modulo P.
func Reduce(f int, n uint64) uint64 {
	p := P(f)
	if p == 0 {
		return 0
	}
	return mod(n, p)
}

// mod returns n modulo p. Most numbers are elements already, and a comparison costs less than a division.
func mod(n, p uint64) uint64 {
	if n < p {
		return n
	}
	return n % p
}

// Add returns the sum.
func Add(f int, a, b uint64) uint64 {
	p := P(f)
	if p == 0 {
		return 0
	}
	s := mod(a, p) + mod(b, p)
	if s >= p {
		s -= p
	}
	return s
}

// Sub returns the difference.
func Sub(f int, a, b uint64) uint64 {
	p := P(f)
	if p == 0 {
		return 0
	}
	return Add(f, a, p-mod(b, p))
}

// Mul returns the product.
func Mul(f int, a, b uint64) uint64 {
	p := P(f)
	if p == 0 {
		return 0
	}
	// Each P is below 2^30, so that the product of two elements does not wrap around.
	return mod(a, p) * mod(b, p) % p
}

// Neg returns 0 - a.
func Neg(f int, a uint64) uint64 { return Sub(f, 0, a) }

// Inv returns the inverse, and 0 for 0.
func Inv(f int, a uint64) uint64 {
	if !Valid(f) {
		return 0
	}
	// The power P - 1 of every element but 0 is 1, so that the power before it is the inverse; that of 0 is 0.
	return Pow(f, a, P(f)-2)
}

// Div returns the product of a and the inverse of b.
func Div(f int, a, b uint64) uint64 { return Mul(f, a, Inv(f, b)) }

// Pow returns the product of n factors a.
func Pow(f int, a, n uint64) uint64 {
	x := Reduce(f, 1)
	for ; n > 0; n >>= 1 {
		if n&1 == 1 {
			x = Mul(f, x, a)
		}
		a = Mul(f, a, a)
	}
	return x
}

// Root returns an element of the order 2^k, and 0 if there is none.
func Root(f, k int) uint64 {
	if !Valid(f) || k < 0 || k > Twos(f) {
		return 0
	}
	return Pow(f, Generator(f), (P(f)-1)>>k)
}

// Order returns the order of an element, and 0 for 0.
func Order(f int, a uint64) uint64 {
	if Reduce(f, a) == 0 {
		return 0
	}
	n := P(f) - 1
	for _, q := range primes(n) {
		for n%q == 0 && Pow(f, a, n/q) == 1 {
			n /= q
		}
	}
	return n
}

// primes returns the primes that divide n, which is above 0. It is quick because those of every P - 1 are small.
func primes(n uint64) []uint64 {
	var l []uint64
	for q := uint64(2); n > 1; q++ {
		if n%q == 0 {
			l = append(l, q)
		}
		for n%q == 0 {
			n /= q
		}
	}
	return l
}

// Sum returns the sum of numbers.
func Sum(f int, l ...uint64) uint64 {
	s := uint64(0)
	for _, n := range l {
		s = Add(f, s, n)
	}
	return s
}

// Dot returns the sum of the products at the same places.
func Dot(f int, a, b []uint64) uint64 {
	s := uint64(0)
	for i := range min(len(a), len(b)) {
		s = Add(f, s, Mul(f, a[i], b[i]))
	}
	return s
}

// Inverses returns the inverse of each number. It inverts only the product of them all, because a power costs much more than a product.
func Inverses(f int, l []uint64) []uint64 {
	if !Valid(f) {
		return nil
	}
	out := make([]uint64, len(l))
	before := uint64(1) // the product of the elements before place i, without those that are 0
	for i := range len(l) {
		out[i] = before
		if x := Reduce(f, l[i]); x != 0 {
			before = Mul(f, before, x)
		}
	}
	upTo := Inv(f, before) // the inverse of the product of the elements up to place i, without those that are 0
	for back := range len(l) {
		i := len(l) - 1 - back
		x := Reduce(f, l[i])
		if x == 0 {
			out[i] = 0
			continue
		}
		out[i] = Mul(f, out[i], upTo)
		upTo = Mul(f, upTo, x)
	}
	return out
}
