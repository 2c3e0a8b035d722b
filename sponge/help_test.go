package sponge

import (
	"math"
	"math/big"
	"math/rand"
	"testing"

	"attestor/api"
)

// The numbers of the fields, so that the tests compute without the program.
var (
	primes     = []uint64{97, 257, 12289, 998244353}
	generators = []uint64{5, 3, 11, 3}
	exponents  = []uint64{5, 3, 5, 3}
)

// noFields are numbers that are those of no field.
var noFields = []int{-1, -2, -4, 4, 5, 7, 8, 256, math.MinInt, math.MaxInt, math.MinInt32, math.MaxInt32}

// noRounds and noPlaces are numbers that are those of no round and of no place.
var (
	noRounds = []int{math.MinInt, math.MinInt32, -256, -8, -4, -2, -1, 8, 9, 12, 16, 31, 32, 64, 256, 1 << 32, math.MaxInt32, math.MaxInt}
	noPlaces = []int{math.MinInt, math.MinInt32, -256, -8, -4, -3, -2, -1, 4, 5, 6, 7, 8, 32, 1 << 32, math.MaxInt32, math.MaxInt}
)

const most = math.MaxUint64

// state is a state of the sponge.
type state = [4]uint64

// powerOf returns x^n, without the program.
func powerOf(f int, x, n uint64) uint64 {
	number := func(n uint64) *big.Int { return new(big.Int).SetUint64(n) }
	return new(big.Int).Exp(number(x), number(n), number(primes[f])).Uint64()
}

// constantOf returns the constant of a round at a place, without the program.
func constantOf(f, r, j int) uint64 {
	return (powerOf(f, generators[f], uint64(4*r+j+1)) + 7) % primes[f]
}

// roundOf returns a state after a round, step by step as the chapter says it, without the program.
func roundOf(f, r int, s state) state {
	p := primes[f]
	for j := range s {
		s[j] = (s[j]%p + constantOf(f, r, j)) % p
		factor, product := s[j], uint64(1)
		for range exponents[f] {
			product = product * factor % p
		}
		s[j] = product
	}
	return state{
		(2*s[0] + 3*s[1] + s[2] + s[3]) % p,
		(s[0] + 2*s[1] + 3*s[2] + s[3]) % p,
		(s[0] + s[1] + 2*s[2] + 3*s[3]) % p,
		(3*s[0] + s[1] + s[2] + 2*s[3]) % p,
	}
}

// permOf returns the permutation of a state, without the program.
func permOf(f int, s state) state {
	for r := range 8 {
		s = roundOf(f, r, s)
	}
	return s
}

// hashOf returns the digest of a list, by a function that permutes states.
func hashOf(f int, l []uint64, perm func(f int, s state) state) api.Digest {
	p := primes[f]
	s := state{0, 0, uint64(len(l)), 0}
	if len(l) == 0 {
		s = perm(f, s)
	}
	for i := 0; i < len(l); i += 2 {
		second := uint64(0)
		if i+1 < len(l) {
			second = l[i+1]
		}
		s[0] = (s[0] + l[i]%p) % p
		s[1] = (s[1] + second%p) % p
		s = perm(f, s)
	}
	return api.Digest{s[0], s[1]}
}

// nodeOf returns the node of two digests, by a function that permutes states.
func nodeOf(f int, l, r api.Digest, perm func(f int, s state) state) api.Digest {
	p := primes[f]
	t := perm(f, state{l[0], l[1], r[0], r[1]})
	return api.Digest{(t[0] + l[0]%p) % p, (t[1] + l[1]%p) % p}
}

// edges returns numbers at which a field could go wrong: small ones, those around multiples of P, and the greatest ones.
func edges(f int) []uint64 {
	p := primes[f]
	last := most / p * p // the greatest multiple of P
	return []uint64{
		0, 1, 2, 3, 7, p / 2, p - 8, p - 7, p - 2, p - 1, p, p + 1, 2*p - 1, 2 * p, 2*p + 1, 10 * p, p*p - 1, p * p, p*p + 1,
		1 << 31, 1<<32 - 1, 1 << 32, 1 << 63, last - p, last - 1, last, last + 1, most - 1, most,
	}
}

// some returns n numbers of any size, more often than by chance numbers at which a field could go wrong.
func some(r *rand.Rand, f, n int) []uint64 {
	l := make([]uint64, n)
	for i := range l {
		l[i] = r.Uint64()
		if few := edges(f); r.Intn(3) == 0 {
			l[i] = few[r.Intn(len(few))]
		}
	}
	return l
}

// states returns states of any numbers: with the same number everywhere, with an edge at one place, and by chance.
func states(r *rand.Rand, f, n int) []state {
	var out []state
	for _, x := range edges(f) {
		out = append(out, state{x, x, x, x}, state{x, 0, 0, 0}, state{0, x, 0, 0}, state{0, 0, x, 0}, state{0, 0, 0, x})
	}
	for range n {
		out = append(out, state(some(r, f, 4)))
	}
	return out
}

// digests returns digests of any numbers.
func digests(r *rand.Rand, f, n int) []api.Digest {
	out := []api.Digest{{}, {1, 0}, {0, 1}, {primes[f], primes[f]}, {primes[f] - 1, primes[f] - 1}, {most, most}, {most, 0}, {0, most}}
	for range n {
		out = append(out, api.Digest(some(r, f, 2)))
	}
	return out
}

// element returns a state modulo P.
func element(f int, s state) state {
	for j := range s {
		s[j] %= primes[f]
	}
	return s
}

// want reports a result that is not the one that is wanted.
func want[T comparable](t *testing.T, what string, got, wanted T) {
	t.Helper()
	if got != wanted {
		t.Errorf("%s is %v, not %v", what, got, wanted)
	}
}
