package sponge

import (
	"math/rand"
	"testing"
)

func TestReduce(t *testing.T) {
	r := rand.New(rand.NewSource(61))
	for f, p := range primes {
		m, ok := mixerOf(f)
		want(t, "whether there is a mixer", ok, true)
		for _, n := range append(edges(f), some(r, f, 100000)...) {
			want(t, "reduce", m.reduce(n), n%p)
		}
		for range 100000 { // the last numbers with the same quotient are those with which the rest is greatest
			n := r.Uint64()/p*p + p - 1
			want(t, "reduce of a number below a multiple of P", m.reduce(n), n%p)
			want(t, "reduce of a multiple of P", m.reduce(n+1), (n+1)%p)
		}
	}
}

func TestUndoing(t *testing.T) {
	for f, p := range primes {
		want(t, "the product of the exponents", exponents[f]*undoing[f]%(p-1), 1)
	}
}

func TestPower(t *testing.T) {
	r := rand.New(rand.NewSource(62))
	for f, p := range primes {
		m, _ := mixerOf(f)
		for _, x := range append(some(r, f, 50), edges(f)...) {
			x %= 2 * p
			for _, n := range []uint64{2, 3, 4, 5, 6, 7, 8, exponents[f], undoing[f], p - 2, p - 1, p, most} {
				want(t, "power", m.power(x, n), powerOf(f, x, n))
			}
		}
	}
}
