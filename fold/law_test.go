package fold

import (
	"math"
	"math/rand"
	"slices"
	"testing"

	"attestor/api"
	"attestor/code"
	"attestor/field"
	"attestor/poly"
)

// P9.4

// foldedOf returns the sum of z^j p_j, where the p_j are the eight parts of a polynomial, without the program.
func foldedOf(f int, p []uint64, z uint64) []uint64 {
	out := make([]uint64, (len(p)+7)/8)
	for i, c := range p {
		out[i/8] = (out[i/8] + c%primes[f]*power(f, z, uint64(i%8))) % primes[f]
	}
	return out
}

func TestFoldOfAPolynomial(t *testing.T) {
	r := rand.New(rand.NewSource(131))
	for f := range primes {
		for _, d := range domains(f, 3, 6) {
			for n := range 1<<d.K + 1 {
				p := some(r, f, n)
				v, z := dressed(r, f, wordOf(d, p)), r.Uint64()
				next, _ := Next(d)
				got, e := Word(d, v, z)
				wantOK(t, "the fold of a polynomial's word", got, e, wordOf(next, foldedOf(f, p, z)))
				want(t, "whether the fold is of degree below n / 8", code.IsWord(next, got, (n+7)/8), true)
			}
		}
	}
}

// TestFoldOfTheParts: the same with the parts of poly.Split.
func TestFoldOfTheParts(t *testing.T) {
	r := rand.New(rand.NewSource(132))
	for f := range primes {
		for _, d := range domains(f, 3, 8) {
			p, z := some(r, f, r.Intn(1<<d.K+1)), r.Uint64()
			var sum []uint64
			for j, part := range poly.Split(f, p, 8) {
				sum = poly.Add(f, sum, poly.Scale(f, part, field.Pow(f, z, uint64(j))))
			}
			got, e := Word(d, wordOf(d, p), z)
			wantOK(t, "the fold of a polynomial's word", got, e, wordOf(nextOf(d), sum))
		}
	}
}

// TestFoldsDownToANumber: after all rounds a word of degree below 8^n is of degree below 1.
func TestFoldsDownToANumber(t *testing.T) {
	r := rand.New(rand.NewSource(133))
	for f := range primes {
		for _, d := range domains(f, 3, 9) {
			n := Rounds(d.K)
			zs := some(r, f, n)
			words, e := Words(d, wordOf(d, some(r, f, 1<<(3*n))), zs)
			want(t, "the error of Words", e, api.OK)
			last := words[n]
			want(t, "whether the last word has one number everywhere", slices.Max(last), slices.Min(last))
		}
	}
}

// P9.5

func TestFoldOfSumsAndMultiples(t *testing.T) {
	r := rand.New(rand.NewSource(134))
	for f := range primes {
		for _, d := range domains(f, 3, 8) {
			v, w := some(r, f, 1<<d.K), some(r, f, 1<<d.K)
			for _, z := range challenges(r, f) {
				s := r.Uint64()
				combined := func(a, b []uint64) []uint64 { // a + s b
					out := make([]uint64, len(a))
					for i := range out {
						out[i] = (a[i]%primes[f] + s%primes[f]*(b[i]%primes[f])) % primes[f]
					}
					return out
				}
				a, _ := Word(d, v, z)
				b, _ := Word(d, w, z)
				got, e := Word(d, combined(v, w), z)
				wantOK(t, "the fold of a sum", got, e, combined(a, b))
				got, e = Word(d, combined(make([]uint64, len(w)), w), z)
				wantOK(t, "the fold of a multiple", got, e, combined(make([]uint64, len(b)), b))
			}
		}
	}
}

// P9.6

// meetings returns how many challenges give the same value in the fibres 0 and 1.
func meetings(t *testing.T, d api.Domain, v []uint64) int {
	t.Helper()
	n := 0
	for z := range primes[d.Field] {
		w, e := Word(d, v, z)
		want(t, "the error of Word", e, api.OK)
		if w[0] == w[1] {
			n++
		}
	}
	return n
}

// withRoots returns the sum of a polynomial with eight coefficients and the product of c and all X - x, of which there are at most 7, without the program.
func withRoots(f int, p []uint64, c uint64, xs []uint64) []uint64 {
	out := make([]uint64, 8)
	out[0] = c
	for _, x := range xs {
		for j := 7; j > 0; j-- {
			out[j] = (out[j-1] + (primes[f]-x)*out[j]) % primes[f]
		}
		out[0] = (primes[f] - x) * out[0] % primes[f]
	}
	for j := range out {
		out[j] = (out[j] + p[j]%primes[f]) % primes[f]
	}
	return out
}

// TestFibresMeetRarely: two local polynomials meet at the roots of their difference, which are chosen, from none up to 7.
func TestFibresMeetRarely(t *testing.T) {
	r := rand.New(rand.NewSource(135))
	for f, p := range primes[:2] {
		for _, d := range domains(f, 4, 5) {
			for n := range 8 {
				var roots []uint64
				for _, x := range r.Perm(int(p))[:n] {
					roots = append(roots, uint64(x))
				}
				a := some(r, f, 8)
				b := withRoots(f, a, 1+r.Uint64()%(p-1), roots)
				locals := append([][]uint64{a, b}, some(r, f, 8), some(r, f, 8))
				v := dressed(r, f, pieces(d, locals[:1<<d.K/8]))
				want(t, "how many challenges give the same value", meetings(t, d, v), n)
			}
		}
	}
}

func TestFibresOfAnyWordMeetRarelyOrAlways(t *testing.T) {
	r := rand.New(rand.NewSource(136))
	for f, p := range primes[:2] {
		for _, d := range domains(f, 4, 6) {
			n := 1 << d.K / 8
			v := some(r, f, 1<<d.K)
			different := code.Local(d, v, 0) != code.Local(d, v, 1)
			if met := meetings(t, d, v); different && met > 7 {
				t.Errorf("%d challenges give the same value in fibres of %v with different local polynomials", met, d)
			}
			same := some(r, f, 8)
			locals := [][]uint64{same, same}
			for len(locals) < n {
				locals = append(locals, some(r, f, 8))
			}
			v = dressed(r, f, pieces(d, locals))
			want(t, "how many challenges give the same value in equal fibres", meetings(t, d, v), int(p))
		}
	}
}

// P1

// answers returns what all functions say of some arguments, and at the end the errors.
func answers(d api.Domain, k int, v, zs []uint64, x, z uint64) [][]uint64 {
	next, e1 := Next(d)
	word, e2 := Word(d, v, z)
	words, e3 := Words(d, v, zs)
	leaf := Leaf(d, v, k)
	return append(words, word, leaf[:],
		[]uint64{uint64(Rounds(k)), uint64(next.Field), uint64(next.K), next.Shift, At(d.Field, x, leaf, z), At(k, x, leaf, z)},
		[]uint64{uint64(e1), uint64(e2), uint64(e3)})
}

func TestAllArgumentsHaveAnAnswerThatStays(t *testing.T) {
	r := rand.New(rand.NewSource(141))
	all := noDomains()
	for f := range primes {
		all = append(all, domains(f, 0, 7)...)
	}
	numbers := []int{math.MinInt, -64, -1, 0, 1, 2, 3, 4, 8, 9, 16, 18, 19, 64, 1025, math.MaxInt}
	for _, d := range all {
		for range 20 {
			lengths := []int{0, 1, 3, 8, 16, code.Size(d), code.Size(d), code.Size(d)}
			v, zs := some(r, 0, lengths[r.Intn(8)]), some(r, 0, r.Intn(4))
			k, x, z := numbers[r.Intn(len(numbers))], r.Uint64(), r.Uint64()
			once, again := answers(d, k, v, zs, x, z), answers(d, k, roomy(v), roomy(zs), x, z)
			want(t, "whether the second answer is the first one", slices.EqualFunc(once, again, slices.Equal), true)
		}
	}
}

// Rule 3

func TestResultsShareNoMemory(t *testing.T) {
	r := rand.New(rand.NewSource(142))
	for f := range primes {
		for _, d := range domains(f, 0, 7) {
			v, zs := roomy(elements(f, some(r, f, 1<<d.K))), roomy(some(r, f, d.K/3))
			wantApart(t, "Word", [][]uint64{v, zs}, func() [][]uint64 {
				once, _ := Word(d, v, 5)
				again, _ := Word(d, v, 5)
				return [][]uint64{once, again}
			})
			wantApart(t, "Words", [][]uint64{v, zs}, func() [][]uint64 {
				once, _ := Words(d, v, zs)
				again, _ := Words(d, v, zs)
				few, _ := Words(d, v, nil)
				return slices.Concat(once, again, few)
			})
			wantApart(t, "Leaf", [][]uint64{v, zs}, func() [][]uint64 {
				Leaf(d, v, 0)
				return nil
			})
		}
	}
	v := [8]uint64{most, 1, 2, 3, 4, 5, 6, 7}
	kept := v
	At(0, 1, v, 5)
	want(t, "the numbers that At is given", v, kept)
}

// The examples of the chapter

func TestExamples(t *testing.T) {
	want(t, "Rounds(2)", Rounds(2), 0)
	want(t, "Rounds(3)", Rounds(3), 1)
	want(t, "Rounds(13)", Rounds(13), 4)
	want(t, "Rounds(-1)", Rounds(-1), 0)

	d, e := Next(api.Domain{Field: 0, K: 4, Shift: 5})
	want(t, "Next(K 4, Shift 5)", d, api.Domain{Field: 0, K: 1, Shift: 6})
	want(t, "the error of Next(K 4, Shift 5)", e, api.OK)
	d, e = Next(api.Domain{Field: 0, K: 2, Shift: 5})
	want(t, "Next(K 2, Shift 5)", d, api.Domain{})
	want(t, "the error of Next(K 2, Shift 5)", e, api.ErrRange)

	powers := [8]uint64{1, 64, 22, 50, 96, 33, 75, 47}
	want(t, "At(x 1, E, z 2)", At(0, 1, powers, 2), 2)
	want(t, "At(x 1, eight numbers 7, z 50)", At(0, 1, [8]uint64{7, 7, 7, 7, 7, 7, 7, 7}, 50), 7)
	want(t, "At(x 97, E, z 2)", At(0, 97, powers, 2), 0)

	d = api.Domain{Field: 0, K: 4, Shift: 1}
	w, e := Word(d, wordOf(d, []uint64{0, 2, 0, 0, 0, 0, 0, 0, 1}), 10)
	wantOK(t, "Word of X^8 + 2 X", w, e, []uint64{21, 19})

	d = api.Domain{Field: 0, K: 3, Shift: 1}
	l, e := Words(d, powers[:], nil)
	wantWords(t, "Words of no challenges", l, e, powers[:])
	l, e = Words(d, powers[:], []uint64{9})
	wantWords(t, "Words of one challenge", l, e, powers[:], []uint64{9})
	l, e = Words(d, powers[:], []uint64{9, 9})
	wantNone(t, "Words of two challenges", l, e, api.ErrRange)
}
