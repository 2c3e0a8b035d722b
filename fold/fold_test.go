package fold

import (
	"math"
	"math/rand"
	"slices"
	"testing"

	"attestor/api"
)

// P9.1

func TestRounds(t *testing.T) {
	for k, wanted := range []int{0, 0, 0, 1, 1, 1, 2, 2, 2, 3, 3, 3, 4, 4, 4, 5, 5, 5, 6, 6, 6, 7} {
		want(t, "Rounds", Rounds(k), wanted)
	}
	for _, k := range []int{-1, -2, -3, -4, -6, -300, math.MinInt32, math.MinInt + 1, math.MinInt} {
		want(t, "Rounds of a number below 0", Rounds(k), 0)
	}
	want(t, "Rounds of a great number", Rounds(3<<40+2), 1<<40)
	want(t, "Rounds of the greatest number", Rounds(math.MaxInt), math.MaxInt/3)
}

func TestNext(t *testing.T) {
	for f, p := range primes {
		for k := 3; k <= exponents[f]; k++ {
			for _, shift := range []uint64{1, 2, 3, generators[f], p / 2, p - 2, p - 1} {
				d := api.Domain{Field: f, K: k, Shift: shift}
				got, e := Next(d)
				want(t, "Next", got, nextOf(d))
				want(t, "the error of Next", e, api.OK)
			}
		}
	}
}

// TestNextHasTheEighthPowers: a point of the next domain is the eighth power of each point of its fibre.
func TestNextHasTheEighthPowers(t *testing.T) {
	for f := range primes {
		for _, d := range domains(f, 3, 9) {
			next, _ := Next(d)
			for i := range 1 << d.K {
				want(t, "an eighth power", point(next, i%(1<<next.K)), power(f, point(d, i), 8))
			}
		}
	}
}

func TestErrorsOfNextInTheirOrder(t *testing.T) {
	for _, d := range noDomains() {
		got, e := Next(d)
		want(t, "Next of no domain", got, api.Domain{})
		want(t, "the error of Next of no domain", e, api.ErrArg)
	}
	for f := range primes {
		for _, d := range domains(f, 0, 2) {
			got, e := Next(d)
			want(t, "Next of a few points", got, api.Domain{})
			want(t, "the error of Next of a few points", e, api.ErrRange)
		}
	}
}

// P9.2

// fibreAt returns the values of a polynomial at x h^j, without the program.
func fibreAt(f int, x uint64, p []uint64) [8]uint64 {
	v := wordOf(api.Domain{Field: f, K: 3, Shift: x % primes[f]}, p)
	return [8]uint64(v)
}

func TestAt(t *testing.T) {
	r := rand.New(rand.NewSource(111))
	for f, p := range primes {
		for _, x := range []uint64{1, 2, 3, p / 2, p - 1, p + 1, 7*p + 5, most - 9} {
			for n := range 9 {
				l := some(r, f, n)
				v := fibreAt(f, x, l)
				for _, z := range challenges(r, f) {
					want(t, "At", At(f, x, v, z), value(f, l, z))
					want(t, "At of numbers that are no elements", At(f, x, [8]uint64(dressed(r, f, v[:])), z), value(f, l, z))
				}
			}
		}
	}
}

// TestAtOfAnyValues holds At against Lagrange's sum.
func TestAtOfAnyValues(t *testing.T) {
	r := rand.New(rand.NewSource(112))
	for f, p := range primes {
		for range 200 {
			d := api.Domain{Field: f, K: 3, Shift: 1 + r.Uint64()%(p-1)}
			v := some(r, f, 8)
			for _, z := range challenges(r, f) {
				want(t, "At", At(f, d.Shift, [8]uint64(v), z), foldOf(d, v, z)[0])
			}
		}
	}
}

// TestAtThePoints: at the points of the fibre the folded values are the numbers of the leaf.
func TestAtThePoints(t *testing.T) {
	r := rand.New(rand.NewSource(113))
	for f := range primes {
		for _, d := range domains(f, 3, 3) {
			v := some(r, f, 8)
			for j, y := range v {
				want(t, "At at a point", At(f, d.Shift, [8]uint64(v), point(d, j)), y%primes[f])
			}
		}
	}
}

func TestAtWithoutAFibre(t *testing.T) {
	r := rand.New(rand.NewSource(114))
	for f, p := range primes {
		for _, x := range []uint64{0, p, 2 * p, p * p, most / p * p} {
			for _, z := range challenges(r, f) {
				want(t, "At of 0", At(f, x, [8]uint64{5, 6, 7, 8, 9, 10, 11, 12}, z), 0)
				want(t, "At of 0 with equal numbers", At(f, x, [8]uint64{7, 7, 7, 7, 7, 7, 7, 7}, z), 0)
			}
		}
	}
	for _, f := range noFields {
		for _, x := range []uint64{0, 1, 5, 97, most} {
			for _, z := range []uint64{0, 1, 5, most} {
				want(t, "At without a field", At(f, x, [8]uint64{7, 7, 7, 7, 7, 7, 7, 7}, z), 0)
			}
		}
	}
}

func TestLeaf(t *testing.T) {
	r := rand.New(rand.NewSource(115))
	for f := range primes {
		for _, d := range domains(f, 3, 10) {
			v := some(r, f, 1<<d.K)
			n := len(v) / 8
			for i := range n {
				var wanted [8]uint64
				for j := range wanted {
					wanted[j] = v[i+j*n] % primes[f]
				}
				want(t, "Leaf", Leaf(d, v, i), wanted)
			}
		}
	}
}

func TestLeafThatIsNotThere(t *testing.T) {
	none := [8]uint64{}
	for f := range primes {
		for _, d := range domains(f, 0, 7) {
			v := slices.Repeat([]uint64{7}, 1<<d.K)
			for _, i := range wrongPlaces(1 << d.K / 8) {
				want(t, "Leaf of no fibre", Leaf(d, v, i), none)
			}
			if d.K < 3 {
				want(t, "Leaf of a few points", Leaf(d, v, 0), none)
			}
			for _, wrong := range noWords(d.K) {
				for _, i := range []int{-1, 0, 1, len(wrong)/8 - 1, len(wrong) / 8} {
					want(t, "Leaf of a list that is no word", Leaf(d, wrong, i), none)
				}
			}
		}
	}
	for _, d := range noDomains() {
		for _, n := range []int{0, 1, 8, 16, 32} {
			for _, i := range []int{-1, 0, 1} {
				want(t, "Leaf without a domain", Leaf(d, slices.Repeat([]uint64{7}, n), i), none)
			}
		}
	}
}

// TestLeafIsFoldedByAt: the number of a fold is what At makes of the leaf at the first point of its fibre.
func TestLeafIsFoldedByAt(t *testing.T) {
	r := rand.New(rand.NewSource(116))
	for f := range primes {
		for _, d := range domains(f, 3, 8) {
			v, z := some(r, f, 1<<d.K), r.Uint64()
			w, e := Word(d, v, z)
			want(t, "the error of Word", e, api.OK)
			for i, y := range w {
				want(t, "At of a leaf", At(f, point(d, i), Leaf(d, v, i), z), y)
			}
		}
	}
}

// P9.3

// TestWord holds Word against Lagrange's sum.
func TestWord(t *testing.T) {
	r := rand.New(rand.NewSource(117))
	for f := range primes {
		for _, d := range domains(f, 3, 8) {
			for _, v := range [][]uint64{some(r, f, 1<<d.K), slices.Repeat([]uint64{most}, 1<<d.K)} {
				for _, z := range challenges(r, f) {
					got, e := Word(d, v, z)
					wantOK(t, "Word", got, e, foldOf(d, v, z))
				}
			}
		}
	}
}

// TestWordOfPieces: each fibre has a local polynomial of its own.
func TestWordOfPieces(t *testing.T) {
	r := rand.New(rand.NewSource(118))
	for f := range primes {
		for _, d := range domains(f, 3, 8) {
			locals := make([][]uint64, 1<<d.K/8)
			for i := range locals {
				locals[i] = some(r, f, r.Intn(9))
			}
			v := dressed(r, f, pieces(d, locals))
			for _, z := range challenges(r, f) {
				wanted := make([]uint64, len(locals))
				for i, p := range locals {
					wanted[i] = value(f, p, z)
				}
				got, e := Word(d, v, z)
				wantOK(t, "Word", got, e, wanted)
			}
		}
	}
}

func TestWordOfTheGreatestDomains(t *testing.T) {
	r := rand.New(rand.NewSource(119))
	for f, k := range exponents {
		d := api.Domain{Field: f, K: k, Shift: primes[f] - 3}
		v, z := some(r, f, 1<<k), r.Uint64()
		got, e := Word(d, v, z)
		wantOK(t, "Word", got, e, foldOf(d, v, z))
	}
}

func TestErrorsOfWordInTheirOrder(t *testing.T) {
	r := rand.New(rand.NewSource(120))
	for _, d := range noDomains() {
		for _, n := range []int{0, 1, 2, 4, 8, 16, 32} {
			got, e := Word(d, make([]uint64, n), 5)
			wantNone(t, "Word without a domain", got, e, api.ErrArg)
		}
	}
	for f := range primes {
		for _, d := range domains(f, 0, 7) {
			for _, v := range noWords(d.K) {
				got, e := Word(d, v, 5)
				wantNone(t, "Word of a list that is no word", got, e, api.ErrArg)
			}
			if d.K < 3 {
				got, e := Word(d, some(r, f, 1<<d.K), 5)
				wantNone(t, "Word of a few points", got, e, api.ErrRange)
			}
		}
	}
}

// wordsOf returns a word, as elements, and its folds, without the program.
func wordsOf(d api.Domain, v, zs []uint64) [][]uint64 {
	out := [][]uint64{elements(d.Field, v)}
	for _, z := range zs {
		v, d = foldOf(d, v, z), nextOf(d)
		out = append(out, v)
	}
	return out
}

func TestWords(t *testing.T) {
	r := rand.New(rand.NewSource(121))
	for f := range primes {
		for _, d := range domains(f, 0, 10) {
			for n := range d.K/3 + 1 {
				v, zs := some(r, f, 1<<d.K), some(r, f, n)
				got, e := Words(d, v, zs)
				wantWords(t, "Words", got, e, wordsOf(d, v, zs)...)
			}
		}
	}
}

func TestWordsOfTheGreatestDomains(t *testing.T) {
	r := rand.New(rand.NewSource(122))
	for f, k := range exponents {
		d := api.Domain{Field: f, K: k, Shift: 2}
		v, zs := some(r, f, 1<<k), some(r, f, k/3)
		got, e := Words(d, v, zs)
		wantWords(t, "Words", got, e, wordsOf(d, v, zs)...)
	}
}

func TestWordsOfNoChallenges(t *testing.T) {
	r := rand.New(rand.NewSource(123))
	for f := range primes {
		for _, d := range domains(f, 0, 18) {
			v := some(r, f, 1<<d.K)
			got, e := Words(d, v, nil)
			wantWords(t, "Words of no challenges", got, e, elements(f, v))
			got, e = Words(d, v, []uint64{})
			wantWords(t, "Words of an empty list of challenges", got, e, elements(f, v))
		}
	}
}

func TestErrorsOfWordsInTheirOrder(t *testing.T) {
	for _, d := range noDomains() {
		for _, n := range []int{0, 1, 2, 4, 8, 16, 32} {
			for rounds := range 3 {
				got, e := Words(d, make([]uint64, n), make([]uint64, rounds))
				wantNone(t, "Words without a domain", got, e, api.ErrArg)
			}
		}
	}
	for f := range primes {
		for _, d := range domains(f, 0, 9) {
			for _, rounds := range []int{0, 1, d.K / 3, d.K/3 + 1, 100} {
				for _, v := range noWords(d.K) {
					got, e := Words(d, v, make([]uint64, rounds))
					wantNone(t, "Words of a list that is no word", got, e, api.ErrArg)
				}
			}
			for _, rounds := range []int{d.K/3 + 1, d.K/3 + 2, d.K + 1, 1000} {
				got, e := Words(d, make([]uint64, 1<<d.K), make([]uint64, rounds))
				wantNone(t, "Words of too many challenges", got, e, api.ErrRange)
			}
		}
	}
}
