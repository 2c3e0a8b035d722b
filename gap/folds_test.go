package gap

import (
	"math"
	"math/big"
	"math/rand"
	"slices"
	"strconv"
	"testing"

	"attestor/api"
)

// P11.2

// badCombines returns for how many e the combination agrees in more than t fibres, for each t from 0 to the number of fibres, without the program.
func badCombines(d api.Domain, cols [][]uint64) []int {
	out := make([]int, 1<<d.K/8+1)
	for e := range primes[d.Field] {
		for in := range agreement(d, combined(d.Field, cols, e)) {
			out[in]++
		}
	}
	return out
}

// badFolds does the same for the folds.
func badFolds(d api.Domain, v []uint64) []int {
	out := make([]int, 1<<d.K/8+1)
	for z := range primes[d.Field] {
		for in := range commonest(foldOf(d, v, z)) {
			out[in]++
		}
	}
	return out
}

// checkBad holds BadCombine and BadFold against these counts.
func checkBad(t *testing.T, d api.Domain, cols [][]uint64) {
	t.Helper()
	for in, wanted := range badCombines(d, cols) {
		got, e := BadCombine(d, cols, in)
		wantCount(t, "BadCombine", got, e, wanted)
	}
	for in, wanted := range badFolds(d, cols[0]) {
		got, e := BadFold(d, cols[0], in)
		wantCount(t, "BadFold", got, e, wanted)
	}
}

func TestBadCombineAndBadFold(t *testing.T) {
	r := rand.New(rand.NewSource(161))
	for _, d := range domains(3, 6) {
		for n := 1; n <= 3; n++ {
			checkBad(t, d, someColumns(r, d, n))
		}
	}
}

// TestBadCombineOfManyColumns: with more columns than elements the powers of e repeat, but for that of 0.
func TestBadCombineOfManyColumns(t *testing.T) {
	r := rand.New(rand.NewSource(162))
	for f, p := range primes[:2] {
		d := api.Domain{Field: f, K: 4, Shift: 2}
		for _, n := range []int{64, 65, int(p) - 1, int(p), int(p) + 1, 2*int(p) + 3} {
			cols := slices.Repeat([][]uint64{make([]uint64, 16)}, n)
			cols[0], cols[n/2], cols[n-1] = someColumns(r, d, 1)[0], someColumns(r, d, 1)[0], someColumns(r, d, 1)[0]
			for in, wanted := range badCombines(d, cols) {
				got, e := BadCombine(d, cols, in)
				wantCount(t, "BadCombine of many columns", got, e, wanted)
			}
		}
	}
}

// TestBadWithoutALimit: t may be any number; below the least agreement all challenges count, from the number of fibres on none.
func TestBadWithoutALimit(t *testing.T) {
	r := rand.New(rand.NewSource(163))
	for _, d := range domains(3, 6) {
		cols := someColumns(r, d, 2)
		for _, in := range []int{math.MinInt, math.MinInt32, -9, -2, -1, 0} {
			got, e := BadCombine(d, cols, in)
			wantCount(t, "BadCombine", got, e, int(primes[d.Field]))
			got, e = BadFold(d, cols[0], in)
			wantCount(t, "BadFold", got, e, int(primes[d.Field]))
		}
		for _, in := range []int{1 << d.K / 8, 9, 64, 1 << 32, math.MaxInt32, math.MaxInt} {
			got, e := BadCombine(d, cols, in)
			wantCount(t, "BadCombine", got, e, 0)
			got, e = BadFold(d, cols[0], in)
			wantCount(t, "BadFold", got, e, 0)
		}
	}
}

// TestBadOfAWordOfLowDegree: all combinations agree in all fibres, and all folds have one number everywhere.
func TestBadOfAWordOfLowDegree(t *testing.T) {
	r := rand.New(rand.NewSource(164))
	for _, d := range domains(3, 6) {
		cols := [][]uint64{wordOf(d, elements(r, d.Field, 8)), wordOf(d, elements(r, d.Field, 3)), make([]uint64, 1<<d.K)}
		got, e := BadCombine(d, cols, 1<<d.K/8-1)
		wantCount(t, "BadCombine", got, e, int(primes[d.Field]))
		got, e = BadFold(d, cols[0], 1<<d.K/8-1)
		wantCount(t, "BadFold", got, e, int(primes[d.Field]))
		x, e := Passing(d, cols, 64)
		wantRatio(t, "Passing", x, e, big.NewRat(1, 1))
	}
}

// P11.3

// passingOf returns the part that passes with each of some numbers of queries, without the program: it folds the columns and combines the folds.
func passingOf(d api.Domain, cols [][]uint64, queries []int) []*big.Rat {
	p, fibres := primes[d.Field], 1<<d.K/8
	pairs := make([]int64, fibres+1)
	for z := range p {
		var folds [][]uint64
		for _, v := range cols {
			folds = append(folds, foldOf(d, v, z))
		}
		for e := range p {
			pairs[commonest(combined(d.Field, folds, e))]++
		}
	}
	var out []*big.Rat
	for _, q := range queries {
		sum := new(big.Rat)
		for a, n := range pairs {
			part := powerOf(big.NewRat(int64(a), int64(fibres)), q)
			sum.Add(sum, part.Mul(part, big.NewRat(n, int64(p*p))))
		}
		out = append(out, sum)
	}
	return out
}

func TestPassing(t *testing.T) {
	r := rand.New(rand.NewSource(165))
	queries := []int{0, 1, 2, 3, 17, 63, 64}
	for _, d := range domains(3, 6) {
		cols := someColumns(r, d, 1+r.Intn(3))
		for i, wanted := range passingOf(d, cols, queries) {
			got, e := Passing(d, cols, queries[i])
			wantRatio(t, "Passing with "+strconv.Itoa(queries[i])+" queries", got, e, wanted)
		}
	}
}

// TestPassingOfOneFibre: one fibre always agrees with itself; without queries everything passes.
func TestPassingOfOneFibre(t *testing.T) {
	r := rand.New(rand.NewSource(166))
	for _, d := range domains(3, 4) {
		q := 0
		if d.K == 3 {
			q = 64
		}
		got, e := Passing(d, [][]uint64{elements(r, d.Field, 1<<d.K), elements(r, d.Field, 1<<d.K)}, q)
		wantRatio(t, "Passing", got, e, big.NewRat(1, 1))
	}
}

// TestPassingWhereItIsKnown: two fibres whose local polynomials differ by n chosen roots agree for n of the z, whatever e is; where the second column makes up for the difference, they agree for one of the e, whatever z is.
func TestPassingWhereItIsKnown(t *testing.T) {
	r := rand.New(rand.NewSource(167))
	for f, p := range primes[:2] {
		d, n := api.Domain{Field: f, K: 4, Shift: 3}, int64(p)
		for roots := range 8 {
			var xs []uint64
			for _, x := range r.Perm(int(p))[:roots] {
				xs = append(xs, uint64(x))
			}
			base, more := elements(r, f, 8), withRoots(f, 7, xs...)
			first := dressed(r, f, pieces(d, [][]uint64{base, plus(f, base, more)}))
			got, e := Passing(d, [][]uint64{first}, 1)
			wantRatio(t, "Passing", got, e, big.NewRat(n+int64(roots), 2*n))

			// The difference is (1 - e) more: it is 0 for e = 1, and at the roots.
			second := dressed(r, f, pieces(d, [][]uint64{more, nil}))
			bad, e := BadCombine(d, [][]uint64{first, second}, 1)
			wantCount(t, "BadCombine", bad, e, 1)
			both := n + (n-1)*int64(roots)
			got, e = Passing(d, [][]uint64{first, second}, 2)
			wantRatio(t, "Passing", got, e, big.NewRat(3*both+n*n, 4*n*n))
		}
	}
}

// Errors

func TestColumnsMustBeWords(t *testing.T) {
	check := func(d api.Domain, cols [][]uint64, wanted api.Errno) {
		t.Helper()
		for _, n := range []int{1, -1, math.MaxInt} {
			got, e := BadCombine(d, cols, n)
			wantNoCount(t, "BadCombine", got, e, wanted)
			x, e := Passing(d, cols, n) // -1 and MaxInt are out of its range
			wantNoRatio(t, "Passing", x, e, wanted)
			if len(cols) > 0 {
				got, e = BadFold(d, cols[len(cols)-1], n)
				wantNoCount(t, "BadFold", got, e, wanted)
			}
		}
	}
	word := func(n int) []uint64 { return make([]uint64, n) }
	for _, d := range noDomains() {
		for _, n := range []int{0, 1, 2, 4, 8, 16, 32} {
			check(d, [][]uint64{word(n)}, api.ErrArg)
		}
	}
	for _, d := range append(domains(3, 6), farDomains()...) {
		m := 1 << d.K
		check(d, nil, api.ErrArg)
		check(d, [][]uint64{}, api.ErrArg)
		for _, n := range []int{0, 1, 4, m / 8, m - 8, m - 1, m + 1, m + 8, 2 * m} {
			if n != m {
				check(d, [][]uint64{word(n)}, api.ErrArg)
				check(d, [][]uint64{word(m), word(m), word(n)}, api.ErrArg)
			}
		}
		check(d, [][]uint64{word(m), nil}, api.ErrArg)
	}
	for _, d := range farDomains() {
		check(d, [][]uint64{word(1 << d.K)}, api.ErrRange)
	}
}

// TestAnyColumnMayBeNoWord: also the first one, which has the length of the combination, and one between others.
func TestAnyColumnMayBeNoWord(t *testing.T) {
	d := api.Domain{Field: 0, K: 4, Shift: 1}
	for i := range 3 {
		for _, n := range []int{0, 8, 15, 17, 32} {
			cols := [][]uint64{make([]uint64, 16), make([]uint64, 16), make([]uint64, 16)}
			cols[i] = make([]uint64, n)
			got, e := BadCombine(d, cols, 1)
			wantNoCount(t, "BadCombine", got, e, api.ErrArg)
			x, e := Passing(d, cols, 1)
			wantNoRatio(t, "Passing", x, e, api.ErrArg)
		}
	}
}

// TestFewPointsAreNoRange: a K below 3 is ErrArg, not ErrRange.
func TestFewPointsAreNoRange(t *testing.T) {
	for f := range primes {
		for k := range 3 {
			d, v := api.Domain{Field: f, K: k, Shift: 1}, make([]uint64, 1<<k)
			got, e := BadCombine(d, [][]uint64{v}, 0)
			wantNoCount(t, "BadCombine", got, e, api.ErrArg)
			got, e = BadFold(d, v, 0)
			wantNoCount(t, "BadFold", got, e, api.ErrArg)
			x, e := Passing(d, [][]uint64{v}, 1)
			wantNoRatio(t, "Passing", x, e, api.ErrArg)
		}
	}
}

func TestQueriesOutOfTheirRange(t *testing.T) {
	for _, d := range domains(3, 6) {
		for _, n := range wrongFrom(0, 64) {
			x, e := Passing(d, [][]uint64{make([]uint64, 1<<d.K)}, n)
			wantNoRatio(t, "Passing", x, e, api.ErrRange)
		}
	}
}
