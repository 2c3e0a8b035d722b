package lowdegree

import (
	"math"
	"math/rand"
	"slices"
	"testing"

	"attestor/api"
	"attestor/channel"
)

// P10.6

func TestWordsOfLowDegreeAreAcceptedEverywhere(t *testing.T) {
	r := rand.New(rand.NewSource(171))
	for f := range primes {
		for _, k := range keys(r, f, 5) {
			v, c := dressed(r, f, lowWord(r, k.Domain, 1<<k.Degree)), anyChannel(r, f)
			s, _, e := Commit(k, v, c)
			want(t, "the error of Commit", e, api.OK)
			zs, _, e := Follow(k, s.Proof, c)
			want(t, "the error of Follow", e, api.OK)
			for i, x := range v {
				o, e := Open(s, i)
				want(t, "the error of Open", e, api.OK)
				want(t, "Check", Check(k, s.Proof, zs, i, x, o), true)
				want(t, "Check of another value", Check(k, s.Proof, zs, i, x%primes[f]+1, o), false)
			}
		}
	}
}

func TestTestsOfWordsOfLowDegreeAreAccepted(t *testing.T) {
	r := rand.New(rand.NewSource(172))
	for f, greatest := range exponents {
		for degree := 3; degree <= greatest; degree += 1 + degree/3 {
			k := api.LowKey{Domain: api.Domain{Field: f, K: greatest, Shift: 3}, Degree: degree, Cap: r.Intn(7)}
			c := anyChannel(r, f)
			x, e := Prove(k, wordOf(k.Domain, some(r, f, min(9, 1<<degree))), 20, 3, c)
			want(t, "the error of Prove", e, api.OK)
			want(t, "Verify", Verify(k, x, 20, 3, c), true)
		}
	}
}

// P10.7

// planted returns a state whose words are mostly folds of each other at the challenges, up to Final, though no word is of low degree.
func planted(r *rand.Rand, k api.LowKey, zs []uint64) api.LowState {
	f, ds := k.Domain.Field, domainsOf(k)
	s := api.LowState{Key: k, Proof: api.LowProof{Final: some(r, f, 1<<(k.Degree%3))}}
	word := wordOf(ds[len(ds)-1], s.Proof.Final)
	if r.Intn(2) == 0 {
		word[r.Intn(len(word))] = r.Uint64() % primes[f]
	}
	s.Words = [][]uint64{word}
	for j := len(zs) - 1; j >= 0; j-- {
		word = unfolded(r, ds[j], word, zs[j])
		for range len(word) / 16 {
			word[r.Intn(len(word))] = r.Uint64() % primes[f]
		}
		s.Words = slices.Insert(s.Words, 0, word)
		levels := levelsOf(f, word, capLevel(k, ds[j]))
		s.Proof.Caps = slices.Insert(s.Proof.Caps, 0, levels[len(levels)-1])
	}
	return s
}

// unfolded returns a word with a fold: any local polynomials with these values at z.
func unfolded(r *rand.Rand, d api.Domain, fold []uint64, z uint64) []uint64 {
	out, p := make([]uint64, 8*len(fold)), primes[d.Field]
	for i, x := range fold {
		local := some(r, d.Field, 8)
		local[0] = (local[0] + x + p - value(d.Field, local, z)) % p
		for at := i; at < len(out); at += len(fold) {
			out[at] = value(d.Field, local, point(d, at))
		}
	}
	return out
}

// isFolded reports whether in each round the fold at a position is the number of the next word, and the last one the value of Final, without the program.
func isFolded(s api.LowState, zs []uint64, i int) bool {
	f, ds := s.Key.Domain.Field, domainsOf(s.Key)
	for j, z := range zs {
		i %= len(s.Words[j+1])
		if atOf(ds[j], leafOf(f, s.Words[j], i), i, z) != s.Words[j+1][i] {
			return false
		}
	}
	last := len(ds) - 1
	return s.Words[last][i] == value(f, s.Proof.Final, point(ds[last], i))
}

func TestOpeningsOfAnyWords(t *testing.T) {
	r := rand.New(rand.NewSource(173))
	seen := map[bool]int{}
	for f := range primes {
		for _, k := range keys(r, f, 7) {
			zs := some(r, f, k.Degree/3)
			s := planted(r, k, zs)
			for range 12 {
				i := r.Intn(1 << k.Domain.K)
				o, e := Open(s, i)
				want(t, "the error of Open", e, api.OK)
				folded := isFolded(s, zs, i)
				want(t, "Check of any words", Check(k, s.Proof, zs, i, s.Words[0][i], o), folded)
				if len(zs) > 0 {
					want(t, "Check of any words with another value", Check(k, s.Proof, zs, i, s.Words[0][i]+1, o), false)
				}
				seen[folded]++
			}
		}
	}
	if seen[true] < 1000 || seen[false] < 1000 {
		t.Errorf("only one of the results is seen: %v", seen)
	}
}

// TestOpeningsOfWordsWithOneWrongNumber: in the round of the wrong number only the openings that meet it are refused.
func TestOpeningsOfWordsWithOneWrongNumber(t *testing.T) {
	r := rand.New(rand.NewSource(174))
	for f := range primes {
		k := api.LowKey{Domain: api.Domain{Field: f, K: 5, Shift: 3}, Degree: 3, Cap: 1}
		c := anyChannel(r, f)
		s, _, _ := commitOf(k, lowWord(r, k.Domain, 8), c)
		wrong := r.Intn(32)
		s.Words[0][wrong] = (s.Words[0][wrong] + 1) % primes[f]
		levels := levelsOf(f, s.Words[0], 1)
		s.Proof.Caps[0] = levels[len(levels)-1]
		zs, _ := followOf(s.Proof, c)
		for i := range 32 {
			o, _ := Open(s, i)
			want(t, "Check", Check(k, s.Proof, zs, i, s.Words[0][i], o), isFolded(s, zs, i))
		}
	}
}

// P1

// answers returns what all functions say of some arguments.
func answers(k api.LowKey, v, zs []uint64, i, n int, s api.LowState, x api.LowTest, o api.LowOpen, c api.Channel) []any {
	state, after, e := Commit(k, v, c)
	open, e2 := Open(s, i)
	drawn, c2, e3 := Follow(k, x.Proof, c)
	test, e4 := Prove(k, v, n, i, c)
	return []any{
		Valid(k), state, after, e, open, e2, drawn, c2, e3, test, e4,
		Check(k, x.Proof, zs, i, uint64(n), o), Check(k, s.Proof, zs, i, uint64(n), o),
		Verify(k, x, n, i, c), Verify(k, test, n, i, c),
	}
}

func TestAllArgumentsHaveAnAnswerThatStays(t *testing.T) {
	r := rand.New(rand.NewSource(175))
	all := noKeys()
	for f := range primes {
		all = append(all, keys(r, f, 5)...)
	}
	numbers := []int{math.MinInt, -64, -1, 0, 1, 2, 3, 4, 7, 8, 9, 16, 18, 19, 64, 65, math.MaxInt}
	number := func() int { return numbers[r.Intn(len(numbers))] }
	list := func() []uint64 { return dressed(r, 0, some(r, 0, []int{0, 1, 2, 4, 8, 16, 32}[r.Intn(7)])) }
	lists := func() [][]uint64 { return [][]uint64{list(), list(), list()}[:r.Intn(4)] }
	caps := func() [][]api.Digest {
		return [][]api.Digest{digests(r, 0, r.Intn(4)), digests(r, 0, 1), {{most, 1}}}[:r.Intn(4)]
	}
	proof := func() api.LowProof { return api.LowProof{Caps: caps(), Final: list()} }
	open := func() api.LowOpen {
		return api.LowOpen{Leaves: [][8]uint64{{}, {1, most}, {5}}[:r.Intn(4)], Paths: caps()}
	}
	for _, k := range all {
		v := list()
		if k.Domain.K >= 0 && k.Domain.K < 6 && r.Intn(2) == 0 {
			v = slices.Repeat([]uint64{7}, 1<<k.Domain.K)
		}
		s := api.LowState{Key: k, Words: lists(), Proof: proof()}
		x := api.LowTest{Proof: proof(), Nonce: r.Uint64() >> r.Intn(64), Opens: []api.LowOpen{open(), open()}[:r.Intn(3)]}
		c := api.Channel{Field: k.Domain.Field, S: [4]uint64{r.Uint64(), 1, 2, most}}
		i, n, zs, o := number(), number(), list(), open()
		once := answers(k, v, zs, i, n, s, x, o, c)
		again := answers(k, copyOf(v), copyOf(zs), i, n, copyOf(s), copyOf(x), copyOf(o), c)
		want(t, "whether the second answer is the first one", same(once, again), true)
	}
}

// Rule 3

func TestResultsShareNoMemory(t *testing.T) {
	r := rand.New(rand.NewSource(176))
	for f := range primes {
		for _, k := range keys(r, f, 6) {
			v, c := append(lowWord(r, k.Domain, 1<<k.Degree), 5, 6, 7)[:1<<k.Domain.K], anyChannel(r, f)
			wantApart(t, "Commit", []any{v}, func() []any {
				once, _, _ := Commit(k, v, c)
				again, _, _ := Commit(k, v, c)
				return []any{once, again}
			})
			s, _, _ := Commit(k, v, c)
			zs, _, _ := Follow(k, s.Proof, c)
			wantApart(t, "Open", []any{s}, func() []any {
				once, _ := Open(s, 0)
				again, _ := Open(s, 0)
				return []any{once, again}
			})
			o, _ := Open(s, 0)
			wantApart(t, "Follow and Check", []any{s, o, zs}, func() []any {
				once, _, _ := Follow(k, s.Proof, c)
				again, _, _ := Follow(k, s.Proof, c)
				want(t, "Check", Check(k, s.Proof, zs, 0, v[0], o), true)
				return []any{once, again}
			})
			wantApart(t, "Prove", []any{v}, func() []any {
				once, _ := Prove(k, v, 2, 0, c)
				again, _ := Prove(k, v, 2, 0, c)
				return []any{once, again}
			})
			x, _ := Prove(k, v, 2, 0, c)
			wantApart(t, "Verify", []any{x}, func() []any {
				want(t, "Verify", Verify(k, x, 2, 0, c), k.Degree >= 3)
				return nil
			})
		}
	}
}

// The examples of the chapter

func TestExamples(t *testing.T) {
	k := api.LowKey{Domain: api.Domain{Field: 0, K: 2, Shift: 5}, Degree: 1, Cap: 0}
	w := []uint64{5, 13, 92, 84}
	s, _, e := Commit(k, w, channel.New(0))
	want(t, "the error of Commit(w, New(0))", e, api.OK)
	want(t, "Commit(w, New(0))", s, api.LowState{Key: k, Words: [][]uint64{w}, Proof: api.LowProof{Final: []uint64{0, 1}}})
	_, _, e = Commit(k, []uint64{5, 13, 92, 85}, channel.New(0))
	want(t, "the error of Commit(5 13 92 85, New(0))", e, api.ErrNone)
	_, _, e = Commit(k, w, channel.New(1))
	want(t, "the error of Commit(w, New(1))", e, api.ErrArg)
	_, _, e = Commit(k, w[:2], channel.New(0))
	want(t, "the error of Commit(5 13, New(0))", e, api.ErrArg)

	zs, _, e := Follow(k, s.Proof, channel.New(0))
	want(t, "how many challenges Follow returns", len(zs), 0)
	want(t, "the error of Follow", e, api.OK)
	_, _, e = Follow(k, api.LowProof{Final: []uint64{0}}, channel.New(0))
	want(t, "the error of Follow with the Final (0)", e, api.ErrShape)
	want(t, "Check at 1 with 13", Check(k, s.Proof, nil, 1, 13, api.LowOpen{}), true)
	want(t, "Check at 1 with 14", Check(k, s.Proof, nil, 1, 14, api.LowOpen{}), false)
	want(t, "Check at 4", Check(k, s.Proof, nil, 4, 13, api.LowOpen{}), false)
	o, e := Open(s, 3)
	want(t, "Open, 3", o, api.LowOpen{})
	want(t, "the error of Open, 3", e, api.OK)
	_, e = Open(s, 4)
	want(t, "the error of Open, 4", e, api.ErrRange)

	k = api.LowKey{Domain: api.Domain{Field: 0, K: 4, Shift: 1}, Degree: 3, Cap: 1}
	s, _, e = Commit(k, slices.Repeat([]uint64{7}, 16), channel.New(0))
	want(t, "the error of Commit of sixteen numbers 7", e, api.OK)
	want(t, "the digests of the cap", len(s.Proof.Caps[0]), 2)
	want(t, "Final", s.Proof.Final, []uint64{7})
}
