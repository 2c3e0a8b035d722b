package sponge

import (
	"math/rand"
	"slices"
	"testing"

	"attestor/api"
)

// P6.4

func TestPermAndInverseUndoEachOther(t *testing.T) {
	r := rand.New(rand.NewSource(71))
	for f := range primes {
		for _, s := range states(r, f, 3000) {
			s = element(f, s)
			want(t, "Inverse(Perm(s))", Inverse(f, Perm(f, s)), s)
			want(t, "Perm(Inverse(s))", Perm(f, Inverse(f, s)), s)
		}
	}
}

// TestPermutationsDiffer: states that differ in two places only, and all of them.
func TestPermutationsDiffer(t *testing.T) {
	for i := range 4 {
		for j := range i {
			seen := map[state]bool{}
			s := state{11, 22, 33, 44}
			for s[i] = range primes[0] {
				for s[j] = range primes[0] {
					seen[Perm(0, s)] = true
				}
			}
			want(t, "the number of permutations", uint64(len(seen)), primes[0]*primes[0])
		}
	}
}

// P6.5

func TestPermIsTheRounds(t *testing.T) {
	random := rand.New(rand.NewSource(72))
	for f := range primes {
		for _, s := range states(random, f, 500) {
			wanted := s
			for r := range 8 {
				wanted = Round(f, r, wanted)
			}
			want(t, "Perm", Perm(f, s), wanted)
		}
	}
}

func TestHashIsMadeOfPerm(t *testing.T) {
	r := rand.New(rand.NewSource(73))
	for f := range primes {
		for n := range 20 {
			l := some(r, f, n)
			want(t, "Hash", Hash(f, l), hashOf(f, l, Perm))
		}
		for _, d := range digests(r, f, 20) {
			want(t, "Node", Node(f, d, api.Digest{7, 8}), nodeOf(f, d, api.Digest{7, 8}, Perm))
		}
		want(t, "Hash of nothing", Hash(f, nil), Node(f, api.Digest{}, api.Digest{}))
		want(t, "Hash of the empty list", Hash(f, []uint64{}), Node(f, api.Digest{}, api.Digest{}))
	}
}

// P1

// answers returns what all functions say of some arguments.
func answers(f, round, place int, s state, l []uint64) [6]state {
	hash, node := Hash(f, l), Node(f, api.Digest(s[:2]), api.Digest(s[2:]))
	return [6]state{
		{Constant(f, round, place)}, Round(f, round, s), Perm(f, s), Inverse(f, s), {hash[0], hash[1]}, {node[0], node[1]},
	}
}

func TestAllArgumentsHaveAnAnswerThatStays(t *testing.T) {
	r := rand.New(rand.NewSource(74))
	rounds := append(slices.Clone(noRounds), 0, 1, 2, 3, 4, 5, 6, 7)
	places := append(slices.Clone(noPlaces), 0, 1, 2, 3)
	for _, f := range append([]int{0, 1, 2, 3}, noFields...) {
		for _, round := range rounds {
			for _, place := range places {
				numbers := some(r, max(0, min(f, 3)), 4+r.Intn(9))
				s, l := state(numbers), numbers[4:]
				once, again := answers(f, round, place, s, l), answers(f, round, place, s, slices.Clone(l))
				want(t, "the second answer", again, once)
				if slices.Contains(noFields, f) {
					want(t, "the answer without a field", once, [6]state{})
					continue
				}
				for _, x := range once {
					want(t, "an answer modulo P", element(f, x), x)
				}
			}
		}
	}
}

// Rule 3

func TestHashLeavesTheListAsItIs(t *testing.T) {
	r := rand.New(rand.NewSource(75))
	for f := range primes {
		for n := range 9 {
			room := some(r, f, 12) // a careless append would write behind the list
			before := slices.Clone(room)
			Hash(f, room[:n])
			want(t, "whether the memory of the list stays", slices.Equal(room, before), true)
			hash := Hash(f, room[:n])
			clear(room[n:])
			want(t, "Hash of the list with zeros behind it", Hash(f, room[:n]), hash)
		}
	}
}

// The examples of the chapter

func TestExamples(t *testing.T) {
	for j, wanted := range []uint64{12, 32, 35, 50} {
		want(t, "Constant(0, 0, 0 to 3)", Constant(0, 0, j), wanted)
	}
	want(t, "Constant(0, 7, 3)", Constant(0, 7, 3), 42)
	want(t, "Constant(1, 0, 0)", Constant(1, 0, 0), 10)
	want(t, "Constant(2, 0, 1)", Constant(2, 0, 1), 128)
	want(t, "Round(0, 0, 0 0 0 0)", Round(0, 0, state{}), state{59, 59, 94, 40})
	want(t, "Perm(0, 0 0 0 0)", Perm(0, state{}), state{19, 58, 95, 16})
	want(t, "Perm(0, 0 2 0 0)", Perm(0, state{0, 2, 0, 0}), state{22, 69, 88, 87})
	want(t, "Perm(0, 97 194 0 970)", Perm(0, state{97, 194, 0, 970}), state{19, 58, 95, 16})
	want(t, "Inverse(0, 19 58 95 16)", Inverse(0, state{19, 58, 95, 16}), state{})
	want(t, "Hash(0, nothing)", Hash(0, nil), api.Digest{19, 58})
	want(t, "Node(0, 0 0, 0 0)", Node(0, api.Digest{}, api.Digest{}), api.Digest{19, 58})
	want(t, "Perm(4, 1 2 3 4)", Perm(4, state{1, 2, 3, 4}), state{})
}
