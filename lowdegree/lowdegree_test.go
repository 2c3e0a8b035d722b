package lowdegree

import (
	"math/rand"
	"slices"
	"testing"

	"attestor/api"
)

// P10.1

func TestValid(t *testing.T) {
	for f, p := range primes {
		for k := range exponents[f] + 1 {
			for degree := range k + 1 {
				for cap := range api.MaxHeight + 1 {
					for _, shift := range []uint64{1, 2, p - 1} {
						d := api.Domain{Field: f, K: k, Shift: shift}
						want(t, "Valid", Valid(api.LowKey{Domain: d, Degree: degree, Cap: cap}), true)
					}
				}
			}
		}
	}
	for _, k := range noKeys() {
		if Valid(k) {
			t.Errorf("the key %v is valid", k)
		}
	}
}

// wantCommit reports what Commit returns if it is not what is wanted.
func wantCommit(t *testing.T, what string, k api.LowKey, v []uint64, c api.Channel, s api.LowState, after api.Channel, wanted api.Errno) {
	t.Helper()
	got, gotAfter, e := Commit(k, v, c)
	want(t, "the error of Commit of "+what, e, wanted)
	want(t, "the key of "+what, got.Key, s.Key)
	want(t, "the words of "+what, got.Words, s.Words)
	want(t, "the caps of "+what, got.Proof.Caps, s.Proof.Caps)
	want(t, "the last polynomial of "+what, got.Proof.Final, s.Proof.Final)
	want(t, "the channel after "+what, gotAfter, after)
}

// lowWord returns the word of a polynomial with at most n coefficients.
func lowWord(r *rand.Rand, d api.Domain, n int) []uint64 { return wordOf(d, some(r, d.Field, n)) }

func TestCommit(t *testing.T) {
	r := rand.New(rand.NewSource(151))
	for f := range primes {
		for _, k := range keys(r, f, 7) {
			for _, n := range []int{1 << k.Degree, r.Intn(1<<k.Degree + 1)} {
				v, c := lowWord(r, k.Domain, n), anyChannel(r, f)
				s, after, e := commitOf(k, v, c)
				want(t, "the error of a word of low degree", e, api.OK)
				wantCommit(t, "a word of low degree", k, dressed(r, f, v), c, s, after, api.OK)
			}
		}
	}
}

// TestCommitKeepsZerosOfFinal: the number of coefficients does not depend on the word.
func TestCommitKeepsZerosOfFinal(t *testing.T) {
	for f := range primes {
		for degree := range 6 {
			k := api.LowKey{Domain: api.Domain{Field: f, K: 5, Shift: 2}, Degree: degree}
			for _, x := range []uint64{0, 7, primes[f], primes[f] + 7} {
				s, _, e := Commit(k, slices.Repeat([]uint64{x}, 32), api.Channel{Field: f})
				final := make([]uint64, 1<<(degree%3))
				final[0] = x % primes[f]
				want(t, "the error of Commit", e, api.OK)
				want(t, "Final of a word of equal numbers", s.Proof.Final, final)
			}
		}
	}
}

// TestCommitOfOtherWords holds Commit against the last word, which says whether there is an error: a word that is not of low degree may become one by chance.
func TestCommitOfOtherWords(t *testing.T) {
	r := rand.New(rand.NewSource(152))
	seen := map[api.Errno]int{}
	for f := range primes {
		for _, k := range keys(r, f, 6) {
			one := lowWord(r, k.Domain, 1<<k.Degree)
			one[r.Intn(len(one))] = r.Uint64() % primes[f]
			size := 1 << k.Domain.K
			for _, v := range [][]uint64{one, lowWord(r, k.Domain, min(1<<k.Degree+1, size)), lowWord(r, k.Domain, size), some(r, f, size)} {
				c := anyChannel(r, f)
				s, after, e := commitOf(k, v, c)
				wantCommit(t, "any word", k, dressed(r, f, v), c, s, after, e)
				seen[e]++
			}
		}
	}
	if seen[api.OK] < 100 || seen[api.ErrNone] < 100 {
		t.Errorf("only one of the results is seen: %v", seen)
	}
}

// TestCommitOfOneCoefficientMore: a power of X whose exponent is 2^Degree is folded to such a power, whatever the challenges are.
func TestCommitOfOneCoefficientMore(t *testing.T) {
	for f := range primes {
		for degree := range 5 {
			k := api.LowKey{Domain: api.Domain{Field: f, K: 5, Shift: 3}, Degree: degree}
			p := make([]uint64, 1<<degree+1)
			p[1<<degree] = 1
			_, _, e := Commit(k, wordOf(k.Domain, p), api.Channel{Field: f})
			want(t, "the error of one coefficient more", e, api.ErrNone)
		}
	}
}

func TestCommitOfTheGreatestDomains(t *testing.T) {
	r := rand.New(rand.NewSource(153))
	for f, greatest := range exponents {
		for _, degree := range []int{greatest, greatest - 1, 3} {
			k := api.LowKey{Domain: api.Domain{Field: f, K: greatest, Shift: primes[f] - 2}, Degree: degree, Cap: 2}
			p := some(r, f, 5)
			s, c, e := Commit(k, wordOf(k.Domain, p), api.Channel{Field: f})
			want(t, "the error of Commit", e, api.OK)
			zs, after := followOf(s.Proof, api.Channel{Field: f})
			want(t, "the channel after Commit", c, after)
			want(t, "the number of words", len(s.Words), degree/3+1)
			for j, d := range domainsOf(k) {
				want(t, "a word", s.Words[j], wordOf(d, p))
				if j < len(zs) {
					levels := levelsOf(f, s.Words[j], capLevel(k, d))
					want(t, "a cap", s.Proof.Caps[j], levels[len(levels)-1])
					p = []uint64{value(f, p, zs[j])} // a polynomial with fewer than eight coefficients is folded to its value
				}
			}
			want(t, "Final", s.Proof.Final[0], p[0])
		}
	}
}

func TestErrorsOfCommitInTheirOrder(t *testing.T) {
	r := rand.New(rand.NewSource(154))
	no := func(what string, k api.LowKey, v []uint64, c api.Channel) {
		t.Helper()
		wantCommit(t, what, k, v, c, api.LowState{}, api.Channel{}, api.ErrArg)
	}
	for _, k := range noKeys() {
		for _, n := range []int{0, 1, 8, 16} {
			no("a key that is not valid", k, make([]uint64, n), api.Channel{Field: k.Domain.Field})
			no("a key that is not valid", k, make([]uint64, n), api.Channel{})
		}
	}
	for f := range primes {
		for _, k := range keys(r, f, 5) {
			v := some(r, f, 1<<k.Domain.K) // most of them are not of low degree
			for _, n := range []int{0, 1, 2, 1<<k.Domain.K - 1, 1<<k.Domain.K + 1, 2 << k.Domain.K, 1 << k.Domain.K / 8} {
				if n != len(v) {
					no("a list that is no word", k, make([]uint64, n), api.Channel{Field: f})
				}
			}
			for _, other := range append([]int{0, 1, 2, 3}, noFields...) {
				if other != f {
					no("a channel of another field", k, v, api.Channel{Field: other, S: [4]uint64{1, 2, 3, 4}})
				}
			}
		}
	}
}

// P10.2

// anyState returns a valid state whose words have nothing to do with each other.
func anyState(r *rand.Rand, k api.LowKey) api.LowState {
	s := api.LowState{Key: k}
	for _, d := range domainsOf(k) {
		s.Words = append(s.Words, some(r, d.Field, 1<<d.K))
	}
	return s
}

func TestOpen(t *testing.T) {
	r := rand.New(rand.NewSource(155))
	for f := range primes {
		for _, k := range keys(r, f, 7) {
			s := anyState(r, k)
			other := api.LowState{Key: k, Proof: api.LowProof{Caps: make([][]api.Digest, 5), Final: []uint64{most}}}
			for _, v := range s.Words {
				other.Words = append(other.Words, dressed(r, f, v))
			}
			for _, i := range []int{0, 1<<k.Domain.K - 1, r.Intn(1 << k.Domain.K)} {
				got, e := Open(s, i)
				want(t, "the error of Open", e, api.OK)
				want(t, "Open", got, openOf(s, i))
				got, e = Open(other, i)
				want(t, "the error of Open of numbers that are no elements", e, api.OK)
				want(t, "Open of numbers that are no elements", got, openOf(s, i))
			}
		}
	}
}

func TestOpenOfAllPositions(t *testing.T) {
	r := rand.New(rand.NewSource(156))
	for _, k := range []api.LowKey{
		{Domain: api.Domain{Field: 0, K: 5, Shift: 3}, Degree: 5, Cap: 1},
		{Domain: api.Domain{Field: 1, K: 8, Shift: 3}, Degree: 7, Cap: 2},
	} {
		s := anyState(r, k)
		for i := range 1 << k.Domain.K {
			got, e := Open(s, i)
			want(t, "the error of Open", e, api.OK)
			want(t, "Open", got, openOf(s, i))
		}
	}
}

func TestErrorsOfOpenInTheirOrder(t *testing.T) {
	r := rand.New(rand.NewSource(157))
	no := func(what string, s api.LowState, i int, wanted api.Errno) {
		t.Helper()
		got, e := Open(s, i)
		want(t, "Open of "+what, got, api.LowOpen{})
		want(t, "the error of Open of "+what, e, wanted)
	}
	for _, k := range noKeys() {
		for _, words := range [][][]uint64{nil, {nil}, {{1}}, {make([]uint64, 16), make([]uint64, 2)}} {
			no("a key that is not valid", api.LowState{Key: k, Words: words}, 0, api.ErrArg)
		}
	}
	for f := range primes {
		for _, k := range keys(r, f, 7) {
			s := anyState(r, k)
			for _, i := range wrongPlaces(1 << k.Domain.K) {
				no("no position", s, i, api.ErrRange)
			}
			for _, i := range []int{-1, 0, 1 << k.Domain.K} {
				no("no words", api.LowState{Key: k}, i, api.ErrArg)
				no("a word too few", api.LowState{Key: k, Words: s.Words[1:]}, i, api.ErrArg)
				no("a word too few", api.LowState{Key: k, Words: s.Words[:len(s.Words)-1]}, i, api.ErrArg)
				no("a word too many", api.LowState{Key: k, Words: append(slices.Clip(s.Words), []uint64{1})}, i, api.ErrArg)
				for j, v := range s.Words {
					for _, n := range []int{0, 1, len(v) - 1, len(v) + 1, 2 * len(v), 8 * len(v)} {
						if bad := copyOf(s); n != len(v) {
							bad.Words[j] = make([]uint64, n)
							no("a list that is no word", bad, i, api.ErrArg)
						}
					}
				}
			}
		}
	}
}

// P10.3

// anyProof returns a proof of a key's shape with any digests and coefficients.
func anyProof(r *rand.Rand, k api.LowKey) api.LowProof {
	var p api.LowProof
	for _, d := range domainsOf(k)[:k.Degree/3] {
		p.Caps = append(p.Caps, digests(r, d.Field, 1<<capLevel(k, d)))
	}
	p.Final = some(r, k.Domain.Field, 1<<(k.Degree%3))
	return p
}

func TestFollow(t *testing.T) {
	r := rand.New(rand.NewSource(158))
	for f := range primes {
		for _, k := range keys(r, f, 11) {
			p, c := anyProof(r, k), anyChannel(r, f)
			zs, after := followOf(p, c)
			got, gotAfter, e := Follow(k, p, c)
			want(t, "the challenges of Follow", got, zs)
			want(t, "the channel after Follow", gotAfter, after)
			want(t, "the error of Follow", e, api.OK)
		}
	}
}

// TestFollowDrawsWhatCommitDrew sees that the folds of Commit are those at the challenges of Follow.
func TestFollowDrawsWhatCommitDrew(t *testing.T) {
	r := rand.New(rand.NewSource(159))
	for f := range primes {
		for _, k := range keys(r, f, 7) {
			c := anyChannel(r, f)
			s, after, _ := Commit(k, lowWord(r, k.Domain, 1<<k.Degree), c)
			zs, gotAfter, e := Follow(k, s.Proof, c)
			want(t, "the error of Follow", e, api.OK)
			want(t, "the channel after Follow", gotAfter, after)
			for j, d := range domainsOf(k)[:k.Degree/3] {
				want(t, "the fold at a challenge of Follow", s.Words[j+1], foldOf(d, s.Words[j], zs[j]))
			}
		}
	}
}

// otherShapes returns proofs that are like a proof of a key's shape, but have not its shape.
func otherShapes(k api.LowKey, p api.LowProof) []api.LowProof {
	var out []api.LowProof
	change := func(do func(q *api.LowProof)) {
		q := copyOf(p)
		do(&q)
		out = append(out, q)
	}
	prime := primes[k.Domain.Field]
	change(func(q *api.LowProof) { q.Final = nil })
	change(func(q *api.LowProof) { q.Final = q.Final[:len(q.Final)-1] })
	change(func(q *api.LowProof) { q.Final = append(q.Final, 0) })
	change(func(q *api.LowProof) { q.Final = append(q.Final, q.Final...) })
	change(func(q *api.LowProof) { q.Caps = append(q.Caps, nil) })
	change(func(q *api.LowProof) { q.Caps = append(q.Caps, []api.Digest{{1, 2}}) })
	for i := range p.Final {
		change(func(q *api.LowProof) { q.Final[i] += prime })
		change(func(q *api.LowProof) { q.Final[i] = most })
	}
	for j, cap := range p.Caps {
		change(func(q *api.LowProof) { q.Caps[j] = nil })
		change(func(q *api.LowProof) { q.Caps = slices.Delete(q.Caps, j, j+1) })
		change(func(q *api.LowProof) { q.Caps[j] = q.Caps[j][1:] })
		change(func(q *api.LowProof) { q.Caps[j] = q.Caps[j][:(len(cap)+1)/2-len(cap)%2] })
		change(func(q *api.LowProof) { q.Caps[j] = append(q.Caps[j], api.Digest{}) })
		change(func(q *api.LowProof) { q.Caps[j] = append(q.Caps[j], cap...) })
		for _, i := range []int{0, len(cap) / 2, len(cap) - 1} {
			change(func(q *api.LowProof) { q.Caps[j][i][0] += prime })
			change(func(q *api.LowProof) { q.Caps[j][i][1] += prime })
			change(func(q *api.LowProof) { q.Caps[j][i] = api.Digest{most, prime} })
		}
	}
	return out
}

func TestErrorsOfFollowInTheirOrder(t *testing.T) {
	r := rand.New(rand.NewSource(160))
	no := func(what string, k api.LowKey, p api.LowProof, c api.Channel, wanted api.Errno) {
		t.Helper()
		zs, after, e := Follow(k, p, c)
		want(t, "how many challenges Follow returns of "+what, len(zs), 0)
		want(t, "the channel after "+what, after, api.Channel{})
		want(t, "the error of Follow of "+what, e, wanted)
	}
	for _, k := range noKeys() {
		for _, p := range []api.LowProof{{}, {Final: []uint64{1}}, {Caps: [][]api.Digest{{{1, 2}}}, Final: []uint64{1}}} {
			no("a key that is not valid", k, p, api.Channel{Field: k.Domain.Field}, api.ErrArg)
			no("a key that is not valid", k, p, api.Channel{}, api.ErrArg)
		}
	}
	for f := range primes {
		for _, k := range keys(r, f, 8) {
			p := anyProof(r, k)
			bad := append(otherShapes(k, p), api.LowProof{})
			for _, q := range bad {
				no("a proof of another shape", k, q, api.Channel{Field: f}, api.ErrShape)
			}
			for _, other := range append([]int{0, 1, 2, 3}, noFields...) {
				if other != f {
					no("a channel of another field", k, p, api.Channel{Field: other}, api.ErrArg)
					no("a channel of another field", k, bad[0], api.Channel{Field: other}, api.ErrArg)
				}
			}
		}
	}
}

// TestFollowOfAnotherKey: the shape is that of the key, not that of the proof alone.
func TestFollowOfAnotherKey(t *testing.T) {
	r := rand.New(rand.NewSource(161))
	k := api.LowKey{Domain: api.Domain{Field: 1, K: 8, Shift: 3}, Degree: 6, Cap: 3}
	p := anyProof(r, k)
	for degree := range 9 {
		for cap := range 7 {
			other := k
			other.Degree, other.Cap = degree, cap
			wanted := api.ErrShape
			if degree == 6 && cap == 3 { // the caps of 8 and 4 digests
				wanted = api.OK
			}
			_, _, e := Follow(other, p, api.Channel{Field: 1})
			want(t, "the error of Follow for another key", e, wanted)
		}
	}
}
