package mono

import (
	"math"
	"math/rand"
	"slices"
	"testing"

	"attestor/api"
)

// P12.2

// checkNormal holds Normal of a sum against the terms of the chapter.
func checkNormal(t *testing.T, f int, sum []api.Mono) {
	t.Helper()
	got, e := Normal(f, sum)
	wantSum(t, "Normal of "+textOf(sum), got, e, normalOf(f, sum))
}

func TestNormal(t *testing.T) {
	r := rand.New(rand.NewSource(211))
	for f := range primes {
		for range 1000 {
			checkNormal(t, f, someSum(r, f, r.Intn(9), 3))
			checkNormal(t, f, someSum(r, f, r.Intn(30), 6))
			checkNormal(t, f, wildSum(r, f, r.Intn(12)))
		}
		checkNormal(t, f, someSum(r, f, 2000, 2))
		checkNormal(t, f, wildSum(r, f, 300))
		for _, sum := range [][]api.Mono{nil, {}, {term(0)}, {term(primes[f], m0)}, {term(0, m0), term(0)}} {
			got, e := Normal(f, sum)
			wantSum(t, "Normal of nothing", got, e, nil)
		}
	}
}

func TestNormalOfSumsOfCoefficients(t *testing.T) {
	for f, p := range primes {
		for _, vars := range [][]api.Var{nil, {}, {m0}, {c0, m0}} {
			for _, x := range edges(f) {
				checkNormal(t, f, sumOf(term(x, vars...)))
				for _, y := range edges(f) {
					checkNormal(t, f, sumOf(term(x, vars...), term(y, vars...)))
					checkNormal(t, f, sumOf(term(x, vars...), term(1, n0), term(y, vars...)))
				}
				left := sumOf(term(x, vars...), term(3, n0), term(p-x%p, vars...)) // these cancel
				got, e := Normal(f, left)
				wantSum(t, "Normal of "+textOf(left), got, e, sumOf(term(3, n0)))
			}
			got, e := Normal(f, sumOf(term(greatest, vars...), term(greatest, vars...), term(greatest, vars...)))
			wantSum(t, "Normal of the greatest numbers", got, e, normalOf(f, sumOf(term(times(f, 3, greatest), vars...))))
		}
	}
	got, e := Normal(0, slices.Repeat(sumOf(term(1, m0, n0), term(1, n0, m0)), 485))
	wantSum(t, "Normal of 970 times the same", got, e, nil)
	got, e = Normal(0, slices.Repeat(sumOf(term(1, m0, n0), term(1, n0, m0)), 486))
	wantSum(t, "Normal of 972 times the same", got, e, sumOf(term(2, m0, n0)))
}

// TestTheOrderOfVariables: the kinds and the indexes are ordered as numbers, and the kind counts first.
func TestTheOrderOfVariables(t *testing.T) {
	var ordered []api.Var
	for kind := range 256 {
		for _, i := range []int{math.MinInt, math.MinInt + 1, math.MinInt32, -256, -10, -9, -2, -1, 0, 1, 2, 9, 10, 255, 256, math.MaxInt32, 1 << 32, math.MaxInt - 1, math.MaxInt} {
			ordered = append(ordered, api.Var{Kind: api.VarKind(kind), Index: i})
		}
	}
	r := rand.New(rand.NewSource(212))
	for range 20 {
		vars, sum := slices.Clone(ordered), []api.Mono(nil)
		r.Shuffle(len(vars), func(i, j int) { vars[i], vars[j] = vars[j], vars[i] })
		for i, v := range vars {
			sum = append(sum, term(uint64(i%96+1), v))
		}
		got, e := Normal(0, sumOf(term(1, vars...)))
		wantSum(t, "Normal of a monomial", got, e, sumOf(term(1, ordered...)))
		got, e = Normal(0, sum)
		slices.SortFunc(sum, func(x, y api.Mono) int {
			return slices.Index(ordered, x.Vars[0]) - slices.Index(ordered, y.Vars[0])
		})
		wantSum(t, "Normal of monomials with one variable", got, e, sum)
		if t.Failed() {
			return
		}
	}
}

// TestTheOrderOfMonomials: the number of variables counts first, then the first place at which they differ.
func TestTheOrderOfMonomials(t *testing.T) {
	z := api.Var{Kind: 255, Index: math.MaxInt}
	ordered := sumOf(
		term(1),
		term(2, api.Var{}), term(3, m0), term(4, m1), term(5, n0), term(6, z),
		term(7, api.Var{}, z), term(8, m0, m0), term(9, m0, m1), term(10, m0, z), term(11, m1, m1), term(12, m1, n0), term(13, n0, n0), term(14, z, z),
		term(15, m0, m0, m0), term(16, m0, m0, z), term(17, m0, m1, m1), term(18, m1, m1, m1), term(19, z, z, z),
		term(20, m0, m0, m0, m0),
	)
	r := rand.New(rand.NewSource(213))
	for range 200 {
		sum := copied(ordered)
		r.Shuffle(len(sum), func(i, j int) { sum[i], sum[j] = sum[j], sum[i] })
		for _, m := range sum {
			r.Shuffle(len(m.Vars), func(i, j int) { m.Vars[i], m.Vars[j] = m.Vars[j], m.Vars[i] })
		}
		got, e := Normal(1, sum)
		wantSum(t, "Normal", got, e, ordered)
	}
}

// TestDifferentVariablesStayApart: all monomials of one or two variables whose numbers have the same digits, or which have the same text.
func TestDifferentVariablesStayApart(t *testing.T) {
	var vars []api.Var
	for _, kind := range []api.VarKind{0, 1, 2, 11, 12, 21, 22, 111, 112, 211, 221} {
		for _, i := range []int{-112, -12, -11, -2, -1, 0, 1, 2, 11, 12, 21, 22, 111, 112, 121, 211, 1121, 12111} {
			vars = append(vars, api.Var{Kind: kind, Index: i})
		}
	}
	var ordered, others []api.Mono
	for _, v := range vars {
		ordered = append(ordered, term(1, v))
		others = append(others, term(1, v))
	}
	for i, v := range vars {
		for _, w := range vars[i:] {
			ordered = append(ordered, term(1, v, w))
			others = append(others, term(1, w, v))
		}
	}
	slices.Reverse(others)
	got, e := Normal(0, others)
	if !same(got, ordered) || e != api.OK {
		t.Errorf("Normal of %d different monomials has %d, error %d", len(ordered), len(got), e)
	}
}

func TestSumsWithoutAField(t *testing.T) {
	r := rand.New(rand.NewSource(214))
	for _, f := range noFields {
		for _, a := range [][]api.Mono{nil, {}, {term(1)}, {term(1, m0)}, someSum(r, 0, 4, 3)} {
			got, e := Normal(f, a)
			wantNoSum(t, "Normal without a field", got, e, api.ErrArg)
			for _, b := range [][]api.Mono{nil, {}, {term(1)}, {term(1, m0)}, someSum(r, 0, 4, 3)} {
				got, e = Add(f, a, b)
				wantNoSum(t, "Add without a field", got, e, api.ErrArg)
				got, e = Mul(f, a, b)
				wantNoSum(t, "Mul without a field", got, e, api.ErrArg)
			}
		}
	}
}

// P12.3

// checkBoth holds Add and Mul of two sums against the promise.
func checkBoth(t *testing.T, f int, a, b []api.Mono) {
	t.Helper()
	got, e := Add(f, a, b)
	wantSum(t, "Add of "+textOf(a)+" and "+textOf(b), got, e, normalOf(f, slices.Concat(a, b)))
	got, e = Mul(f, a, b)
	wantSum(t, "Mul of "+textOf(a)+" and "+textOf(b), got, e, normalOf(f, productsOf(f, a, b)))
}

func TestAddAndMul(t *testing.T) {
	r := rand.New(rand.NewSource(215))
	for f := range primes {
		for range 500 {
			checkBoth(t, f, someSum(r, f, r.Intn(5), 3), someSum(r, f, r.Intn(5), 3))
			checkBoth(t, f, wildSum(r, f, r.Intn(5)), wildSum(r, f, r.Intn(5)))
		}
		checkBoth(t, f, someSum(r, f, 60, 3), someSum(r, f, 40, 2))
	}
}

func TestAddAndMulOfCoefficients(t *testing.T) {
	for f := range primes {
		for _, x := range edges(f) {
			for _, y := range edges(f) {
				checkBoth(t, f, sumOf(term(x)), sumOf(term(y)))
				checkBoth(t, f, sumOf(term(x, n0)), sumOf(term(y, n0)))
				checkBoth(t, f, sumOf(term(x, n0), term(y)), sumOf(term(y, m0), term(x)))
			}
		}
	}
}

func TestAddAndMulOfNothing(t *testing.T) {
	r := rand.New(rand.NewSource(216))
	for f := range primes {
		for _, a := range [][]api.Mono{nil, {}, {term(0)}, {term(1)}, someSum(r, f, 5, 3), wildSum(r, f, 5)} {
			for _, none := range [][]api.Mono{nil, {}, {term(0)}, {term(primes[f])}, {term(1, m0), term(primes[f]-1, m0)}} {
				got, e := Add(f, a, none)
				wantSum(t, "Add of a sum and nothing", got, e, normalOf(f, a))
				got, e = Add(f, none, a)
				wantSum(t, "Add of nothing and a sum", got, e, normalOf(f, a))
				got, e = Mul(f, a, none)
				wantSum(t, "Mul of a sum and nothing", got, e, nil)
				got, e = Mul(f, none, a)
				wantSum(t, "Mul of nothing and a sum", got, e, nil)
			}
			got, e := Mul(f, a, sumOf(term(1)))
			wantSum(t, "Mul of a sum and 1", got, e, normalOf(f, a))
			if f < 2 {
				got, e = Add(f, a, slices.Repeat(a, int(primes[f])-1))
				wantSum(t, "Add of P times a sum", got, e, nil)
			}
		}
	}
}

// TestPowers: by Fermat, in the field 0 the power P of a sum is the sum of the powers P of its monomials.
func TestPowers(t *testing.T) {
	power, e := sumOf(term(1)), api.OK
	for range 97 {
		power, e = Mul(0, power, sumOf(term(1, m0), term(2)))
	}
	wantSum(t, "the power 97", power, e, sumOf(term(2), term(1, slices.Repeat([]api.Var{m0}, 97)...)))
}

// The examples of the chapter

func TestExamples(t *testing.T) {
	sum := sumOf(term(3, m0, n0), term(5))
	wantValue(t, 0, sum, api.Env{Main: []uint64{10}, Next: []uint64{4}}, 28)
	want(t, "Degree of 3 m0 n0 + 5", Degree(sum), 2)
	want(t, "Degree of the empty sum", Degree(nil), 0)
	got, e := Normal(0, sumOf(term(1, m0, n0), term(96, n0, m0)))
	wantSum(t, "Normal of m0 n0 + 96 n0 m0", got, e, nil)
	got, e = Normal(0, sumOf(term(98, m0), term(2)))
	wantSum(t, "Normal of 98 m0 + 2", got, e, sumOf(term(2), term(1, m0)))
	got, e = Mul(0, sumOf(term(1, m0), term(1)), sumOf(term(1, m0), term(96)))
	wantSum(t, "Mul of m0 + 1 and m0 + 96", got, e, sumOf(term(96), term(1, m0, m0)))
	want(t, "Text of 2 + 1 m0", Text(sumOf(term(2), term(1, m0))), "2 + 1*main0")
	want(t, "Text of the empty sum", Text(nil), "0")
	wantNoValue(t, 0, sumOf(term(1, m0)), api.Env{}, api.ErrRange)
	wantNoValue(t, 4, sumOf(term(1, m0)), api.Env{Main: []uint64{10}}, api.ErrArg)
}
