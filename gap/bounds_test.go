package gap

import (
	"math"
	"math/big"
	"math/rand"
	"testing"

	"attestor/api"
)

// P11.1

// boundOf returns the bound, without the program.
func boundOf(f, fibres, t, columns, queries int) *big.Rat {
	sets := new(big.Int).Binomial(int64(fibres), int64(t+1)) // 0 for t = fibres
	first := new(big.Rat).SetFrac(sets, new(big.Int).SetUint64(primes[f]))
	first.Mul(first, big.NewRat(int64(columns-1)+7, 1))
	return lesser(first.Add(first, powerOf(big.NewRat(int64(t), int64(fibres)), queries)))
}

func TestBound(t *testing.T) {
	for f := range primes {
		for fibres := 1; fibres <= 32; fibres++ {
			for in := range fibres + 1 {
				for _, columns := range []int{1, 2, 63, 64} {
					for _, queries := range []int{0, 1, 2, 64} {
						got, e := Bound(f, fibres, in, columns, queries)
						wantRatio(t, "Bound", got, e, boundOf(f, fibres, in, columns, queries))
					}
				}
			}
		}
	}
}

func TestBoundOfAllColumnsAndQueries(t *testing.T) {
	for columns := 1; columns <= 64; columns++ {
		for queries := range 65 {
			for _, in := range []int{0, 1, 5, 6, 7} {
				got, e := Bound(3, 7, in, columns, queries)
				wantRatio(t, "Bound", got, e, boundOf(3, 7, in, columns, queries))
			}
		}
	}
}

// TestBoundWhereItIsKnown: without queries, and if all fibres are allowed to agree, the bound is 1; so it is where the sum is greater.
func TestBoundWhereItIsKnown(t *testing.T) {
	one := big.NewRat(1, 1)
	for f := range primes {
		for _, in := range []int{0, 1, 8} {
			got, e := Bound(f, 8, in, 1, 0)
			wantRatio(t, "Bound of no queries", got, e, one)
		}
		got, e := Bound(f, 8, 8, 64, 64)
		wantRatio(t, "Bound with t = fibres", got, e, one)
	}
	got, e := Bound(0, 32, 15, 1, 64)
	wantRatio(t, "Bound of many sets", got, e, one)
	got, e = Bound(0, 1, 0, 1, 1)
	wantRatio(t, "Bound of one fibre", got, e, big.NewRat(7, 97))
	got, e = Bound(0, 1, 0, 64, 1)
	wantRatio(t, "Bound of 64 columns", got, e, big.NewRat(70, 97))
	got, e = Bound(0, 14, 0, 1, 64)
	wantRatio(t, "Bound of 14 fibres", got, e, one)
	got, e = Bound(0, 13, 0, 1, 64)
	wantRatio(t, "Bound of 13 fibres", got, e, big.NewRat(91, 97))
}

// wrongFrom returns numbers that are not from least to greatest.
func wrongFrom(least, greatest int) []int {
	return []int{least - 1, least - 2, least - 100, math.MinInt, math.MinInt + 1, math.MinInt32, greatest + 1, greatest + 2, greatest + 100, 1 << 32, math.MaxInt32, math.MaxInt - 1, math.MaxInt}
}

func TestErrorsOfBoundInTheirOrder(t *testing.T) {
	check := func(f, fibres, in, columns, queries int, wanted api.Errno) {
		t.Helper()
		got, e := Bound(f, fibres, in, columns, queries)
		wantNoRatio(t, "Bound", got, e, wanted)
	}
	for _, f := range noFields {
		check(f, 4, 2, 3, 1, api.ErrArg)
		check(f, 0, 0, 0, -1, api.ErrArg) // also where a number is out of its range
		check(f, 33, 2, 65, 65, api.ErrArg)
	}
	for f := range primes {
		for _, n := range wrongFrom(1, 32) {
			check(f, n, 0, 1, 1, api.ErrRange)
			check(f, n, n, 1, 1, api.ErrRange)
		}
		for _, fibres := range []int{1, 4, 31, 32} {
			for _, n := range wrongFrom(0, fibres) {
				check(f, fibres, n, 1, 1, api.ErrRange)
			}
		}
		for _, n := range wrongFrom(1, 64) {
			check(f, 4, 2, n, 1, api.ErrRange)
			check(f, 4, 4, n, 0, api.ErrRange)
		}
		for _, n := range wrongFrom(0, 64) {
			check(f, 4, 2, 3, n, api.ErrRange)
			check(f, 4, 4, 3, n, api.ErrRange)
		}
	}
}

// P11.5

func TestEqualBound(t *testing.T) {
	for f, p := range primes {
		for _, n := range []int{0, 1, 2, 3, 31, 32, 48, 49, 96, 97, 98, 999, 1000} {
			for width := 1; width <= 64; width++ {
				got, e := EqualBound(f, n, width)
				wantRatio(t, "EqualBound", got, e, lesser(big.NewRat(int64(n*max(1, width-1)), int64(p))))
			}
		}
	}
}

func TestFoundBound(t *testing.T) {
	sizes := []int{0, 1, 2, 3, 32, 48, 49, 97, 98, 999, 1000}
	for f, p := range primes {
		for _, n := range sizes {
			for _, rows := range sizes {
				for _, width := range []int{1, 2, 3, 4, 8, 9, 63, 64} {
					got, e := FoundBound(f, n, rows, width)
					wantRatio(t, "FoundBound", got, e, lesser(big.NewRat(int64(max(0, n+rows-1)*max(1, width-1)), int64(p))))
				}
			}
		}
	}
}

// TestTuplesBoundsWhereTheyAreKnown: widths 1 and 2 are bounded alike, no tuples by 0, and P or more of them by 1.
func TestTuplesBoundsWhereTheyAreKnown(t *testing.T) {
	none, one := new(big.Rat), big.NewRat(1, 1)
	for width := 1; width <= 64; width += 9 {
		got, e := EqualBound(0, 0, width)
		wantRatio(t, "EqualBound of nothing", got, e, none)
		got, e = FoundBound(0, 0, 0, width)
		wantRatio(t, "FoundBound of nothing", got, e, none)
		got, e = FoundBound(0, 1, 0, width)
		wantRatio(t, "FoundBound of one tuple", got, e, none)
		got, e = FoundBound(0, 0, 1, width)
		wantRatio(t, "FoundBound of one row", got, e, none)
		got, e = EqualBound(0, 97, width)
		wantRatio(t, "EqualBound of many", got, e, one)
		got, e = FoundBound(0, 49, 49, width)
		wantRatio(t, "FoundBound of many", got, e, one)
	}
	for _, width := range []int{1, 2} {
		got, e := EqualBound(0, 96, width)
		wantRatio(t, "EqualBound", got, e, big.NewRat(96, 97))
		got, e = FoundBound(0, 49, 48, width)
		wantRatio(t, "FoundBound", got, e, big.NewRat(96, 97))
	}
	got, e := EqualBound(3, 1000, 64)
	wantRatio(t, "the greatest EqualBound in the field 3", got, e, big.NewRat(63000, 998244353))
	got, e = FoundBound(3, 1000, 1000, 64)
	wantRatio(t, "the greatest FoundBound in the field 3", got, e, big.NewRat(125937, 998244353))
}

func TestErrorsOfTuplesBoundsInTheirOrder(t *testing.T) {
	check := func(f, n, rows, width int, wanted api.Errno) {
		t.Helper()
		got, e := FoundBound(f, n, rows, width)
		wantNoRatio(t, "FoundBound", got, e, wanted)
		got, e = FoundBound(f, rows, n, width)
		wantNoRatio(t, "FoundBound", got, e, wanted)
		got, e = EqualBound(f, n, width)
		wantNoRatio(t, "EqualBound", got, e, wanted)
	}
	for _, f := range noFields {
		check(f, 4, 3, 3, api.ErrArg)
		check(f, -1, 3, 3, api.ErrArg) // also where a number is out of its range
		check(f, 1001, 1001, 65, api.ErrArg)
		check(f, 4, 3, 0, api.ErrArg)
	}
	for f := range primes {
		for _, n := range wrongFrom(0, 1000) {
			check(f, n, 3, 1, api.ErrRange)
			check(f, n, n, 64, api.ErrRange)
			check(f, n, 0, 0, api.ErrRange)
		}
		for _, n := range wrongFrom(1, 64) {
			check(f, 4, 3, n, api.ErrRange)
			check(f, 0, 0, n, api.ErrRange)
		}
	}
}

// TestBoundsGrow: with more columns, tuples or rows, and with fewer queries, a bound is not less.
func TestBoundsGrow(t *testing.T) {
	r := rand.New(rand.NewSource(151))
	less := func(what string, a, b api.Ratio) {
		t.Helper()
		if fraction(a).Cmp(fraction(b)) > 0 {
			t.Errorf("%s: %v is greater than %v", what, fraction(a), fraction(b))
		}
	}
	for range 500 {
		f, fibres, columns, queries := r.Intn(4), 1+r.Intn(32), 1+r.Intn(63), r.Intn(64)
		in := r.Intn(fibres + 1)
		a, _ := Bound(f, fibres, in, columns, queries)
		b, _ := Bound(f, fibres, in, columns+1, queries)
		less("Bound of columns", a, b)
		b, _ = Bound(f, fibres, in, columns, queries+1)
		less("Bound of queries", b, a)
		n, rows, width := r.Intn(1000), r.Intn(1000), 1+r.Intn(63)
		a, _ = FoundBound(f, n, rows, width)
		b, _ = FoundBound(f, n+1, rows, width+1)
		less("FoundBound", a, b)
		a, _ = EqualBound(f, n, width)
		b, _ = EqualBound(f, n+1, width+1)
		less("EqualBound", a, b)
	}
}
