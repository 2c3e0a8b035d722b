package sponge

import (
	"math/rand"
	"testing"

	"attestor/api"
)

// P6.1

func TestConstant(t *testing.T) {
	for f := range primes {
		for r := range 8 {
			for j := range 4 {
				want(t, "Constant", Constant(f, r, j), constantOf(f, r, j))
			}
		}
	}
}

func TestConstantsThatAreNotThere(t *testing.T) {
	for f := range primes {
		for _, r := range noRounds {
			for j := range 4 {
				want(t, "Constant of no round", Constant(f, r, j), 0)
			}
			for _, j := range noPlaces {
				want(t, "Constant of no round at no place", Constant(f, r, j), 0)
			}
		}
		for _, j := range noPlaces {
			for r := range 8 {
				want(t, "Constant at no place", Constant(f, r, j), 0)
			}
		}
	}
	for _, f := range noFields {
		for r := range 8 {
			for j := range 4 {
				want(t, "Constant without a field", Constant(f, r, j), 0)
			}
		}
	}
}

func TestRound(t *testing.T) {
	random := rand.New(rand.NewSource(63))
	for f := range primes {
		for r := range 8 {
			for _, s := range states(random, f, 500) {
				want(t, "Round", Round(f, r, s), roundOf(f, r, s))
			}
		}
	}
}

func TestRoundsThatAreNotThere(t *testing.T) {
	for _, s := range []state{{}, {1, 2, 3, 4}, {most, most, most, most}} {
		for f := range primes {
			for _, r := range noRounds {
				want(t, "Round of no round", Round(f, r, s), state{})
			}
		}
		for _, f := range noFields {
			for _, r := range append(noRounds, 0, 1, 6, 7) {
				want(t, "Round without a field", Round(f, r, s), state{})
			}
		}
	}
}

// P6.2

func TestPerm(t *testing.T) {
	r := rand.New(rand.NewSource(64))
	for f := range primes {
		for _, s := range states(r, f, 2000) {
			want(t, "Perm", Perm(f, s), permOf(f, s))
		}
	}
}

// TestInverse: there is only one state below P with the permutation s, so that it is enough to permute what Inverse returns.
func TestInverse(t *testing.T) {
	r := rand.New(rand.NewSource(65))
	for f := range primes {
		for _, s := range states(r, f, 2000) {
			got := Inverse(f, s)
			want(t, "Inverse modulo P", element(f, got), got)
			want(t, "the permutation of Inverse", permOf(f, got), element(f, s))
		}
	}
}

func TestPermutationsWithoutAField(t *testing.T) {
	for _, f := range noFields {
		for _, s := range []state{{}, {1, 2, 3, 4}, {19, 58, 95, 16}, {most, most, most, most}} {
			want(t, "Perm without a field", Perm(f, s), state{})
			want(t, "Inverse without a field", Inverse(f, s), state{})
		}
	}
}

// P6.3

func TestHash(t *testing.T) {
	r := rand.New(rand.NewSource(66))
	for f := range primes {
		for n := range 40 {
			for range 20 {
				l := some(r, f, n)
				want(t, "Hash", Hash(f, l), hashOf(f, l, permOf))
			}
			zeros := make([]uint64, n)
			want(t, "Hash of zeros", Hash(f, zeros), hashOf(f, zeros, permOf))
		}
		want(t, "Hash of no list", Hash(f, nil), hashOf(f, nil, permOf))
	}
}

// TestHashOfLongLists: the length counts modulo P too.
func TestHashOfLongLists(t *testing.T) {
	r := rand.New(rand.NewSource(67))
	for f, p := range primes[:3] {
		for _, n := range []uint64{p - 1, p, p + 1, 2 * p} {
			l := some(r, f, int(n))
			want(t, "Hash of a long list", Hash(f, l), hashOf(f, l, permOf))
		}
	}
	l := some(r, 3, 10001)
	want(t, "Hash of a long list", Hash(3, l), hashOf(3, l, permOf))
}

func TestHashCountsModuloP(t *testing.T) {
	for f, p := range primes {
		wanted := Hash(f, []uint64{5, 0, p - 1})
		want(t, "Hash of numbers from P on", Hash(f, []uint64{5 + 3*p, p, 2*p - 1}), wanted)
		want(t, "Hash of great numbers", Hash(f, []uint64{5 + 1<<20*p, most / p * p, most/p*p - 1}), wanted)
	}
}

// TestHashTellsLengthsApart: what a last element that is alone is given as its second one is not an element of the list.
func TestHashTellsLengthsApart(t *testing.T) {
	for f := range primes {
		want(t, "whether a 0 at the end counts", Hash(f, []uint64{5}) != Hash(f, []uint64{5, 0}), true)
		want(t, "whether the only 0 counts", Hash(f, nil) != Hash(f, []uint64{0}), true)
		want(t, "whether two more zeros count", Hash(f, []uint64{5, 6}) != Hash(f, []uint64{5, 6, 0, 0}), true)
		want(t, "whether the order counts", Hash(f, []uint64{5, 6}) != Hash(f, []uint64{6, 5}), true)
	}
}

func TestNode(t *testing.T) {
	r := rand.New(rand.NewSource(68))
	for f := range primes {
		all := digests(r, f, 50)
		for _, a := range all {
			for _, b := range all {
				want(t, "Node", Node(f, a, b), nodeOf(f, a, b, permOf))
			}
		}
		want(t, "whether the order of digests counts", Node(f, api.Digest{1, 2}, api.Digest{3, 4}) != Node(f, api.Digest{3, 4}, api.Digest{1, 2}), true)
	}
}

func TestDigestsWithoutAField(t *testing.T) {
	for _, f := range noFields {
		for _, l := range [][]uint64{nil, {}, {0}, {1, 2}, {1, 2, 3}, {most, most}} {
			want(t, "Hash without a field", Hash(f, l), api.Digest{})
		}
		for _, d := range []api.Digest{{}, {1, 2}, {most, most}} {
			want(t, "Node without a field", Node(f, d, api.Digest{3, 4}), api.Digest{})
			want(t, "Node of zeros without a field", Node(f, api.Digest{}, d), api.Digest{})
		}
	}
}
