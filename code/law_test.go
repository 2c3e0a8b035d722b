package code

import (
	"math"
	"math/bits"
	"math/rand"
	"slices"
	"testing"

	"attestor/api"
)

// P5.7

// withRoots returns the product of c and all X - x, without the program.
func withRoots(f int, c uint64, xs []uint64) []uint64 {
	out := []uint64{c % primes[f]}
	for _, x := range xs {
		next := make([]uint64, len(out)+1)
		for j, y := range out {
			next[j+1] = (next[j+1] + y) % primes[f]
			next[j] = (next[j] + (primes[f]-x%primes[f])*y) % primes[f]
		}
		out = next
	}
	return out
}

func TestDifferentWordsAgreeInFewPlaces(t *testing.T) {
	r := rand.New(rand.NewSource(71))
	for f := range primes {
		for _, d := range domains(f, 1, 5) {
			size := 1 << d.K
			for n := 1; n <= size; n++ {
				v := wordOf(d, some(r, f, n))
				w := wordOf(d, full(r, f, n))
				if differ := Differ(f, v, w); differ > 0 {
					want(t, "whether different words agree in fewer than n places", size-differ < n, true)
				}
				// A polynomial with n - 1 roots among the points agrees with 0 as often as can be.
				roots := Points(d)[size-n+1:]
				near := wordOf(d, withRoots(f, 3, roots))
				want(t, "IsWord of a product of factors", IsWord(d, near, n), true)
				want(t, "Differ of a product of factors and 0", Differ(f, near, make([]uint64, size)), size-n+1)
			}
		}
	}
}

func TestFillFromAnyPlaces(t *testing.T) {
	r := rand.New(rand.NewSource(72))
	for f := range primes {
		for _, d := range domains(f, 2, 3) {
			size := 1 << d.K
			for n := range size + 1 {
				v := wordOf(d, some(r, f, n))
				for set := range 1 << size {
					if bits.OnesCount(uint(set)) < n || d.K == 3 && r.Intn(6) > 0 {
						continue
					}
					known := make([]bool, size)
					for i := range known {
						known[i] = set>>i&1 == 1
					}
					got, e := Fill(d, spoilt(r, f, v, known), known, n)
					wantOK(t, "Fill", got, e, v)
				}
			}
		}
	}
}

func TestFillOfExtended(t *testing.T) {
	r := rand.New(rand.NewSource(73))
	for f, g := range exponents {
		for k := range min(6, g) + 1 {
			for b := range min(3, g-k) + 1 {
				cols := [][]uint64{some(r, f, 1<<k), make([]uint64, 1<<k), some(r, f, 1<<k)}
				wide, e := Extend(f, cols, b)
				want(t, "the error of Extend", e, api.OK)
				d, e := Wide(f, k, b)
				want(t, "the error of Wide", e, api.OK)
				for _, v := range wide {
					want(t, "whether what Extend returns is of degree below the length", IsWord(d, v, 1<<k), true)
					known := flags(r, 1<<d.K, 1<<k)
					got, e := Fill(d, spoilt(r, f, v, known), known, 1<<k)
					wantOK(t, "Fill of what Extend returns", got, e, v)
				}
			}
		}
	}
}

// P5.8

func TestWordsOfDegreeBelow8(t *testing.T) {
	r := rand.New(rand.NewSource(74))
	for f := range primes {
		for _, d := range domains(f, 3, 7) {
			size := 1 << d.K
			for _, length := range []int{0, 1, 7, 8, 9, 10, 15, 16, 17, size - 1, size} {
				if length > size {
					continue
				}
				v := dressed(r, f, wordOf(d, full(r, f, length)))
				wantSame(t, d, v, length <= 8)
			}
			v := some(r, f, size)
			wantSame(t, d, v, IsWord(d, v, 8))
			v = wordOf(d, some(r, f, 8))
			v[r.Intn(size)]++
			wantSame(t, d, v, d.K == 3)
		}
	}
}

// wantSame reports a word for which IsWord, Local or Agreement does not say what is wanted: whether it is of degree below 8.
func wantSame(t *testing.T, d api.Domain, v []uint64, wanted bool) {
	t.Helper()
	n := len(v) / 8
	same := true
	for i := range n {
		same = same && Local(d, v, i) == Local(d, v, 0)
	}
	want(t, "IsWord with 8", IsWord(d, v, 8), wanted)
	want(t, "whether the local polynomials are the same", same, wanted)
	want(t, "whether all fibres agree", Agreement(d, [][]uint64{v}) == n, wanted)
}

// P1

// answers returns what all functions say of some arguments, and at the end the errors of Wide, Extend and Fill.
func answers(d api.Domain, k, n int, a, b []uint64, known []bool) [][]uint64 {
	number := func(x bool) uint64 {
		if x {
			return 1
		}
		return 0
	}
	f := d.Field
	wide, e1 := Wide(f, k, n)
	cols, e2 := Extend(f, [][]uint64{a, b}, n)
	word, e3 := Fill(d, a, known, n)
	local := Local(d, a, n)
	return append(cols,
		[]uint64{number(Valid(d)), uint64(Size(d)), Point(d, n), uint64(wide.K), wide.Shift, number(IsWord(d, a, n)), uint64(Differ(f, a, b)), uint64(Agreement(d, [][]uint64{a, b}))},
		Points(d), word, local[:], []uint64{uint64(e1), uint64(e2), uint64(e3)})
}

func TestAllArgumentsHaveAnAnswerThatStays(t *testing.T) {
	r := rand.New(rand.NewSource(81))
	all := noDomains()
	for f := range primes {
		all = append(all, domains(f, 0, 6)...)
	}
	numbers := []int{math.MinInt, -64, -1, 0, 1, 2, 3, 4, 8, 9, 16, 18, 19, 64, 1025, math.MaxInt}
	for _, d := range all {
		for range 20 {
			lengths := []int{0, 1, 3, 8, 16, Size(d), Size(d), Size(d)}
			a, b := some(r, 0, lengths[r.Intn(8)]), some(r, 0, lengths[r.Intn(8)])
			m := lengths[r.Intn(8)]
			known := flags(r, m, r.Intn(m+1))
			k, n := numbers[r.Intn(len(numbers))], numbers[r.Intn(len(numbers))]
			once, again := answers(d, k, n, a, b, known), answers(d, k, n, slices.Clone(a), roomy(b), slices.Clone(known))
			want(t, "whether the second answer is the first one", slices.EqualFunc(once, again, slices.Equal), true)
		}
	}
}

// Rule 3

func TestResultsShareNoMemory(t *testing.T) {
	r := rand.New(rand.NewSource(82))
	for f := range primes {
		for _, d := range domains(f, 0, 4) {
			size := 1 << d.K
			a, b := roomy(some(r, f, size)), roomy(wordOf(d, []uint64{7}))
			all := slices.Repeat([]bool{true}, size)
			both := [][]uint64{a, b}
			wantApart(t, "Points", nil, func() [][]uint64 { return [][]uint64{Points(d), Points(d)} })
			wantApart(t, "Extend", both, func() [][]uint64 {
				once, _ := Extend(f, [][]uint64{a, b, a, a}, 0)
				again, _ := Extend(f, [][]uint64{a}, 0)
				return slices.Concat(once, again)
			})
			wantApart(t, "Fill", both, func() [][]uint64 {
				v, _ := Fill(d, a, all, size)
				w, _ := Fill(d, a, all, size)
				x, _ := Fill(d, b, all, 1)
				return [][]uint64{v, w, x}
			})
			wantApart(t, "the functions that return numbers", both, func() [][]uint64 {
				IsWord(d, a, size)
				Differ(f, a, b)
				Local(d, a, 0)
				Agreement(d, [][]uint64{a, b, a})
				return nil
			})
			want(t, "whether Fill leaves the places as they are", slices.Contains(all, false), false)
		}
	}
}

// The examples of the chapter

func TestExamples(t *testing.T) {
	d := api.Domain{Field: 0, K: 2, Shift: 5}
	w, e := Wide(0, 1, 1)
	want(t, "Wide(0, 1, 1)", w, d)
	want(t, "the error of Wide(0, 1, 1)", e, api.OK)
	want(t, "Size(D)", Size(d), 4)
	want(t, "Point(D, 1)", Point(d, 1), 13)
	want(t, "Point(D, 4)", Point(d, 4), 0)
	w, e = Wide(0, 3, 3)
	want(t, "Wide(0, 3, 3)", w, api.Domain{})
	want(t, "the error of Wide(0, 3, 3)", e, api.ErrRange)
	wantList(t, "Points(D)", Points(d), []uint64{5, 13, 92, 84})

	cols, e := Extend(0, [][]uint64{{1, 96}, {3, 3}}, 1)
	want(t, "the number of columns of Extend", len(cols), 2)
	wantOK(t, "Extend((1, 96), 1)", cols[0], e, []uint64{5, 13, 92, 84})
	wantOK(t, "Extend((3, 3), 1)", cols[1], e, []uint64{3, 3, 3, 3})

	v := []uint64{5, 13, 92, 84}
	want(t, "IsWord(D, w, 2)", IsWord(d, v, 2), true)
	want(t, "IsWord(D, w, 1)", IsWord(d, v, 1), false)
	want(t, "IsWord(D, w, 5)", IsWord(d, v, 5), false)

	got, e := Fill(d, []uint64{5, 13, 0, 0}, []bool{true, true, false, false}, 2)
	wantOK(t, "Fill with the first two known", got, e, v)
	got, e = Fill(d, []uint64{5, 13, 92, 85}, []bool{true, true, true, true}, 2)
	wantNone(t, "Fill with all known", got, e, api.ErrNone)
	got, e = Fill(d, []uint64{5, 13, 92, 85}, []bool{false, false, true, false}, 2)
	wantNone(t, "Fill with one known", got, e, api.ErrShort)

	want(t, "Differ(0, (1, 2), (98, 3))", Differ(0, []uint64{1, 2}, []uint64{98, 3}), 1)
	want(t, "Differ(0, (1), (1, 1))", Differ(0, []uint64{1}, []uint64{1, 1}), 1)

	sevens := slices.Repeat([]uint64{7}, 16)
	want(t, "Local of eight numbers 7", Local(api.Domain{Field: 0, K: 3, Shift: 1}, sevens[:8], 0), [8]uint64{7})
	d = api.Domain{Field: 0, K: 4, Shift: 5}
	want(t, "Agreement of sixteen numbers 7", Agreement(d, [][]uint64{sevens}), 2)
	for i := range sevens {
		eight := slices.Clone(sevens)
		eight[i] = 8
		want(t, "Agreement with one number 8", Agreement(d, [][]uint64{eight}), 1)
	}
}
