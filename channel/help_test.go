package channel

import (
	"math"
	"math/rand"
	"testing"

	"attestor/api"
	"attestor/sponge"
)

// primes contains the P of each field, so that the tests compute without package field.
var primes = []uint64{97, 257, 12289, 998244353}

// noFields are numbers that are those of no field.
var noFields = []int{-1, -2, -4, 4, 5, 7, 8, 256, math.MinInt, math.MaxInt, math.MinInt32, math.MaxInt32}

// noBits are numbers of bits that no position has.
var noBits = []int{math.MinInt, math.MinInt32, -256, -64, -25, -24, -2, -1, 25, 26, 31, 32, 63, 64, 65, 256, 1 << 32, math.MaxInt32, math.MaxInt}

const greatest = math.MaxUint64

// state is the state of a channel.
type state = [4]uint64

// absorbOf returns a channel after the chapter's act of absorbing.
func absorbOf(c api.Channel, x ...uint64) api.Channel {
	p := primes[c.Field]
	for _, n := range x {
		c.S[0] = (c.S[0]%p + n%p) % p
		c.S[1] = (c.S[1]%p + 1) % p
		c.S = sponge.Perm(c.Field, c.S)
	}
	return modulo(c)
}

// drawOf returns a channel after the chapter's act of drawing; the number that is drawn is its S[0].
func drawOf(c api.Channel) api.Channel {
	p := primes[c.Field]
	c.S[1] = (c.S[1]%p + 2) % p
	c.S = sponge.Perm(c.Field, c.S)
	return c
}

// modulo returns a channel with its numbers modulo P.
func modulo(c api.Channel) api.Channel {
	for j := range c.S {
		c.S[j] %= primes[c.Field]
	}
	return c
}

// leadingTo returns the channel whose draw leads to a state of elements.
func leadingTo(f int, s state) api.Channel {
	s = sponge.Inverse(f, s)
	s[1] = (s[1] + primes[f] - 2) % primes[f]
	return api.Channel{Field: f, S: s}
}

// grindingTo returns the channel in which the draw after a nonce leads to a state of elements.
func grindingTo(f int, nonce uint64, s state) api.Channel {
	p := primes[f]
	s = sponge.Inverse(f, leadingTo(f, s).S)
	s[0] = (s[0] + p - nonce%p) % p
	s[1] = (s[1] + p - 1) % p
	return api.Channel{Field: f, S: s}
}

// edges returns numbers at which a field could go wrong: small ones, those around multiples of P, and the greatest ones.
func edges(f int) []uint64 {
	p := primes[f]
	last := greatest / p * p // the greatest multiple of P
	return []uint64{
		0, 1, 2, 3, p / 2, p - 3, p - 2, p - 1, p, p + 1, 2*p - 1, 2 * p, p*p - 1, p * p,
		1<<32 - 1, 1 << 32, 1 << 63, last - 1, last, last + 1, greatest - 1, greatest,
	}
}

// some returns n numbers of any size, more often than by chance numbers at which a field could go wrong.
func some(r *rand.Rand, f, n int) []uint64 {
	l := make([]uint64, n)
	for i := range l {
		l[i] = r.Uint64()
		if few := edges(f); r.Intn(3) == 0 {
			l[i] = few[r.Intn(len(few))]
		}
	}
	return l
}

// channels returns channels of a field with any numbers: the beginning, with the same number everywhere, with an edge at one place, and n by chance.
func channels(r *rand.Rand, f, n int) []api.Channel {
	out := []api.Channel{{Field: f}}
	add := func(s state) { out = append(out, api.Channel{Field: f, S: s}) }
	for _, x := range edges(f) {
		add(state{x, x, x, x})
		for j := range 4 {
			s := state{}
			s[j] = x
			add(s)
		}
	}
	for range n {
		add(state(some(r, f, 4)))
	}
	return out
}

// outside returns channels in no field.
func outside() []api.Channel {
	var out []api.Channel
	for _, f := range noFields {
		out = append(out, api.Channel{Field: f}, api.Channel{Field: f, S: state{1, 2, 3, 4}}, api.Channel{Field: f, S: state{greatest, greatest, greatest, greatest}})
	}
	return out
}

// flat returns the numbers of digests.
func flat(l []api.Digest) []uint64 {
	var out []uint64
	for _, d := range l {
		out = append(out, d[0], d[1])
	}
	return out
}

// digests returns n digests of any numbers.
func digests(r *rand.Rand, f, n int) []api.Digest {
	out := make([]api.Digest, n)
	for i := range out {
		out[i] = api.Digest(some(r, f, 2))
	}
	return out
}

// want reports a result that is not the one that is wanted.
func want[T comparable](t *testing.T, what string, got, wanted T) {
	t.Helper()
	if got != wanted {
		t.Errorf("%s is %v, not %v", what, got, wanted)
	}
}
