package mono

import (
	"math"
	"math/rand"
	"slices"
	"testing"

	"attestor/api"
)

// P12.1

func TestValue(t *testing.T) {
	r := rand.New(rand.NewSource(201))
	for f := range primes {
		for range 2000 {
			sum, env := someSum(r, f, r.Intn(6), 5), someEnv(r, f, 2)
			wantValue(t, f, sum, env, valueOf(f, sum, env))
		}
		for _, x := range edges(f) {
			env := api.Env{Main: []uint64{x}}
			wantValue(t, f, sumOf(term(x)), api.Env{}, x%primes[f])
			wantValue(t, f, sumOf(term(1, m0)), env, x%primes[f])
			wantValue(t, f, sumOf(term(x, m0)), env, times(f, x, x))
			wantValue(t, f, sumOf(term(x), term(x)), api.Env{}, plus(f, x, x))
			wantValue(t, f, sumOf(term(1, m0), term(1, m0)), env, plus(f, x, x))
			wantValue(t, f, sumOf(term(1, m0, m0, m0)), env, times(f, x, times(f, x, x)))
		}
		wantValue(t, f, nil, api.Env{}, 0)
		wantValue(t, f, []api.Mono{}, someEnv(r, f, 2), 0)
		wantValue(t, f, sumOf(api.Mono{Coef: 5, Vars: []api.Var{}}), api.Env{}, 5)
	}
}

// TestValueOfEachKind: the values of an environment are all different, so that each variable has its own one.
func TestValueOfEachKind(t *testing.T) {
	env := api.Env{
		Main: []uint64{1, 2, 3}, Next: []uint64{4, 5}, Fixed: []uint64{6, 7, 8, 9}, Public: []uint64{10},
		Aux: []uint64{11, 12}, AuxNext: []uint64{13, 14, 15}, Challenge: []uint64{16, 17},
	}
	for f := range primes {
		for kind, l := range listsOf(env) {
			for i, x := range l {
				v := api.Var{Kind: kind, Index: i}
				wantValue(t, f, sumOf(term(1, v)), env, x)
				wantValue(t, f, sumOf(term(2), term(3, v, m1)), env, plus(f, 2, times(f, 6, x)))
			}
		}
	}
}

func TestValueOfVariablesThatAreNotThere(t *testing.T) {
	r := rand.New(rand.NewSource(202))
	missing := func(f int, env api.Env, v api.Var) {
		t.Helper()
		for _, sum := range [][]api.Mono{
			{term(1, v)},
			{term(0, v)},
			{term(primes[f], v)},
			{term(5), term(1, v)},
			{term(1, v), term(5)},
			{term(5), term(1, v), term(6)},
			{term(1, v), term(96, v)},
			{term(0, v, v)},
		} {
			wantNoValue(t, f, sum, env, api.ErrRange)
		}
		if len(env.Main) > 0 {
			wantNoValue(t, f, sumOf(term(1, m0, v)), env, api.ErrRange)
			wantNoValue(t, f, sumOf(term(1, v, m0)), env, api.ErrRange)
			wantNoValue(t, f, sumOf(term(0, m0, v, m0), term(1, m0)), env, api.ErrRange)
		}
	}
	for f := range primes {
		for n := range 4 {
			env := someEnv(r, f, n)
			for _, kind := range kinds {
				for _, i := range []int{math.MinInt, math.MinInt32, -256, -2, -1, n, n + 1, 256, 1 << 32, math.MaxInt32, math.MaxInt} {
					missing(f, env, api.Var{Kind: kind, Index: i})
				}
			}
			for _, kind := range noKinds {
				for _, i := range []int{math.MinInt, -1, 0, 1, n - 1, n, math.MaxInt} {
					missing(f, env, api.Var{Kind: kind, Index: i})
				}
			}
		}
	}
}

// TestValueOfKindsOfDifferentLengths: an index of one list is none of another one.
func TestValueOfKindsOfDifferentLengths(t *testing.T) {
	for long := range kinds {
		lists := [7][]uint64{}
		lists[long] = []uint64{5, 6}
		env := api.Env{Main: lists[0], Next: lists[1], Fixed: lists[2], Public: lists[3], Aux: lists[4], AuxNext: lists[5], Challenge: lists[6]}
		for j, kind := range kinds {
			sum := sumOf(term(1, api.Var{Kind: kind, Index: 1}))
			if j == long {
				wantValue(t, 0, sum, env, 6)
			} else {
				wantNoValue(t, 0, sum, env, api.ErrRange)
			}
		}
	}
}

func TestValueWithoutAField(t *testing.T) {
	r := rand.New(rand.NewSource(203))
	for _, f := range noFields {
		wantNoValue(t, f, nil, api.Env{}, api.ErrArg)
		wantNoValue(t, f, sumOf(term(1)), api.Env{}, api.ErrArg)
		wantNoValue(t, f, sumOf(term(1, m0)), api.Env{}, api.ErrArg) // also without the variable
		wantNoValue(t, f, sumOf(term(1, api.Var{})), someEnv(r, 0, 2), api.ErrArg)
		wantNoValue(t, f, someSum(r, 0, 3, 3), someEnv(r, 0, 2), api.ErrArg)
	}
}

func TestDegree(t *testing.T) {
	for _, x := range []struct {
		sum    []api.Mono
		wanted int
	}{
		{nil, 0},
		{[]api.Mono{}, 0},
		{sumOf(term(0)), 0},
		{sumOf(term(5)), 0},
		{sumOf(term(1, m0)), 1},
		{sumOf(term(0, m0)), 1}, // coefficients do not matter
		{sumOf(term(97, m0, m0)), 2},
		{sumOf(term(1, m0, m0, m0)), 3},
		{sumOf(term(1, m0, n0, f0, a0, b0)), 5},
		{sumOf(term(1, m0, n0, f0, a0, b0, p0, c0, api.Var{}, api.Var{Kind: 8})), 5},
		{sumOf(term(1, p0, p0, c0, c0)), 0},
		{sumOf(term(1, m0, m1), term(1, m0), term(1)), 2},
		{sumOf(term(1, m0), term(1, m0, m1, n0), term(1, m0, m0)), 3},
		{sumOf(term(1), term(1, m0), term(1, n0, f0)), 2},
		{sumOf(term(1, m0, m0), term(96, m0, m0)), 2}, // also of what cancels
		{sumOf(term(1, p0, p0, p0, p0), term(1, m0, p0)), 1},
	} {
		want(t, "Degree of "+textOf(x.sum), Degree(x.sum), x.wanted)
	}
	for _, i := range wildIndexes {
		for _, kind := range []api.VarKind{api.VarMain, api.VarNext, api.VarFixed, api.VarAux, api.VarAuxNext} {
			want(t, "Degree of a column", Degree(sumOf(term(1, api.Var{Kind: kind, Index: i}))), 1)
		}
		for _, kind := range append([]api.VarKind{api.VarPublic, api.VarChallenge}, noKinds...) {
			want(t, "Degree of no column", Degree(sumOf(term(1, api.Var{Kind: kind, Index: i}))), 0)
		}
	}
	r := rand.New(rand.NewSource(204))
	for range 2000 {
		sum := slices.Concat(wildSum(r, 0, r.Intn(4)), someSum(r, 0, r.Intn(4), 6))
		want(t, "Degree of "+textOf(sum), Degree(sum), degreeOf(sum))
	}
}

// P12.2

// TestSame: each of the sums is the same as itself only.
func TestSame(t *testing.T) {
	sums := [][]api.Mono{
		{},
		{term(0)},
		{term(1)},
		{term(98)}, // no field: numbers do not count modulo P
		{term(greatest)},
		{term(1), term(1)},
		{term(2)},
		{term(1), term(0)},
		{term(0), term(1)},
		{term(1, m0)},
		{term(1, m1)},
		{term(1, n0)},
		{term(2, m0)},
		{term(1, m0, m0)},
		{term(1, m0, n0)},
		{term(1, n0, m0)}, // the order of the variables counts
		{term(1, m0), term(2, n0)},
		{term(2, n0), term(1, m0)}, // and that of the monomials
		{term(1, m0), term(2, n0), term(3)},
		{term(1, m0), term(2, m0)},
		{term(2, m0), term(1, n0)},
		{term(1, m0, n0), term(1)},
		{term(1, m0), term(1, n0)},
		{term(1, api.Var{})}, // kinds that have the same name
		{term(1, api.Var{Kind: 8})},
		{term(1, api.Var{Kind: 99})},
		{term(1, api.Var{Kind: 99, Index: -1})},
		{term(1, api.Var{Kind: 99, Index: math.MinInt})},
	}
	for i, a := range sums {
		for j, b := range sums {
			if got := Same(a, copied(b)); got != (i == j) {
				t.Errorf("Same of %s and %s is %v", textOf(a), textOf(b), got)
			}
		}
	}
	want(t, "Same of nil and nil", Same(nil, nil), true)
	want(t, "Same of nil and an empty list", Same(nil, []api.Mono{}), true)
	want(t, "Same of no variables", Same(sumOf(api.Mono{Coef: 1}), sumOf(api.Mono{Coef: 1, Vars: []api.Var{}})), true)
	want(t, "Same of no variables", Same(sumOf(api.Mono{Coef: 1, Vars: []api.Var{}}), sumOf(api.Mono{Coef: 1})), true)
}

// TestSameOfSumsThatDifferAtOnePlace: the place is any one.
func TestSameOfSumsThatDifferAtOnePlace(t *testing.T) {
	r := rand.New(rand.NewSource(205))
	for range 500 {
		a := append(wildSum(r, 3, r.Intn(5)), term(3, m0))
		want(t, "Same of a copy", Same(a, copied(a)), true)
		for i := range a {
			b := copied(a)
			b[i].Coef++
			want(t, "Same with another coefficient", Same(a, b), false)
			want(t, "Same without a monomial", Same(a, slices.Delete(copied(a), i, i+1)), false)
			for j := range a[i].Vars {
				b = copied(a)
				b[i].Vars[j].Kind++
				want(t, "Same with another kind", Same(a, b), false)
				b = copied(a)
				b[i].Vars[j].Index++
				want(t, "Same with another index", Same(a, b), false)
				b[i].Vars = slices.Delete(b[i].Vars, j, j+1)
				want(t, "Same without a variable", Same(a, b), false)
				want(t, "Same without a variable, the other way round", Same(b, a), false)
			}
		}
	}
}

func TestText(t *testing.T) {
	for _, x := range []struct {
		sum    []api.Mono
		wanted string
	}{
		{nil, "0"},
		{[]api.Mono{}, "0"},
		{sumOf(term(0)), "0"},
		{sumOf(term(0), term(0)), "0 + 0"},
		{sumOf(api.Mono{Coef: 7, Vars: []api.Var{}}), "7"},
		{sumOf(term(greatest)), "18446744073709551615"},
		{sumOf(term(1, m0)), "1*main0"},
		{sumOf(term(0, m0)), "0*main0"},
		{sumOf(term(3, n0, m0), term(5)), "3*next0*main0 + 5"}, // as they stand
		{sumOf(term(5), term(5), term(5)), "5 + 5 + 5"},
		{sumOf(term(1, m0, m1, n0, f0, p0, a0, b0, c0)), "1*main0*main1*next0*fixed0*public0*aux0*auxnext0*challenge0"},
		{sumOf(term(1, api.Var{}), term(2, api.Var{Kind: 8, Index: 3}), term(4, api.Var{Kind: 255, Index: 10})), "1*var0 + 2*var3 + 4*var10"},
		{sumOf(term(1, api.Var{Kind: api.VarMain, Index: -1})), "1*main-1"},
		{sumOf(term(1, api.Var{Kind: api.VarAux, Index: math.MinInt}, api.Var{Kind: api.VarAux, Index: math.MaxInt})), "1*aux-9223372036854775808*aux9223372036854775807"},
	} {
		want(t, "Text", Text(x.sum), x.wanted)
	}
	for kind := range 256 {
		for _, i := range wildIndexes {
			sum := sumOf(term(uint64(kind), api.Var{Kind: api.VarKind(kind), Index: i}))
			want(t, "Text", Text(sum), textOf(sum))
		}
	}
	r := rand.New(rand.NewSource(206))
	for range 1000 {
		sum := slices.Concat(wildSum(r, 3, r.Intn(4)), someSum(r, 3, r.Intn(4), 6))
		want(t, "Text", Text(sum), textOf(sum))
	}
}
