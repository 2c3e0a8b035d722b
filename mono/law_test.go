package mono

import (
	"math"
	"math/rand"
	"slices"
	"testing"

	"attestor/api"
)

// P12.4

// sums returns pairs of sums of a field whose variables are all in an environment with two values of each kind.
func sums(r *rand.Rand, f, n int) [][2][]api.Mono {
	out := [][2][]api.Mono{{nil, nil}, {nil, someSum(r, f, 3, 3)}, {sumOf(term(1)), sumOf(term(primes[f]))}}
	for range n {
		out = append(out, [2][]api.Mono{someSum(r, f, r.Intn(7), 4), someSum(r, f, r.Intn(7), 4)})
	}
	return out
}

func TestValuesStay(t *testing.T) {
	r := rand.New(rand.NewSource(221))
	for f := range primes {
		for _, x := range sums(r, f, 500) {
			env := someEnv(r, f, 2)
			a, _ := Value(f, x[0], env)
			b, _ := Value(f, x[1], env)
			normal, _ := Normal(f, x[0])
			wantValue(t, f, normal, env, a)
			sum, _ := Add(f, x[0], x[1])
			wantValue(t, f, sum, env, plus(f, a, b))
			product, _ := Mul(f, x[0], x[1])
			wantValue(t, f, product, env, times(f, a, b))
		}
	}
}

// TestVariablesStay: the results have no variables that the sums have not, so that they have values wherever the sums have them.
func TestVariablesStay(t *testing.T) {
	r := rand.New(rand.NewSource(222))
	has := func(l []api.Mono, v api.Var) bool {
		return slices.ContainsFunc(l, func(m api.Mono) bool { return slices.Contains(m.Vars, v) })
	}
	for f := range primes {
		for range 200 {
			a, b := wildSum(r, f, r.Intn(5)), wildSum(r, f, r.Intn(5))
			normal, _ := Normal(f, a)
			sum, _ := Add(f, a, b)
			product, _ := Mul(f, a, b)
			for _, m := range normal {
				for _, v := range m.Vars {
					want(t, "whether the sum has the variable", has(a, v), true)
				}
			}
			for _, m := range slices.Concat(sum, product) {
				for _, v := range m.Vars {
					want(t, "whether one of the sums has the variable", has(a, v) || has(b, v), true)
				}
			}
		}
	}
}

func TestNormalOfANormalForm(t *testing.T) {
	r := rand.New(rand.NewSource(223))
	for f := range primes {
		for _, x := range append(sums(r, f, 300), [2][]api.Mono{wildSum(r, f, 9), wildSum(r, f, 9)}) {
			once, _ := Normal(f, x[0])
			again, e := Normal(f, once)
			wantSum(t, "Normal of a normal form", again, e, once)
			want(t, "Same of a normal form and its own", Same(once, again), true)
			sum, _ := Add(f, x[0], x[1])
			again, e = Normal(f, sum)
			wantSum(t, "Normal of what Add returns", again, e, sum)
			product, _ := Mul(f, x[0], x[1])
			again, e = Normal(f, product)
			wantSum(t, "Normal of what Mul returns", again, e, product)
		}
	}
}

func TestDegreesAreBounded(t *testing.T) {
	r := rand.New(rand.NewSource(224))
	atMost := func(what string, got, bound int) {
		t.Helper()
		if got > bound {
			t.Errorf("the degree of %s is %d, more than %d", what, got, bound)
		}
	}
	for f := range primes {
		for _, x := range append(sums(r, f, 300), [2][]api.Mono{wildSum(r, f, 9), wildSum(r, f, 9)}) {
			normal, _ := Normal(f, x[0])
			atMost("the normal form", Degree(normal), Degree(x[0]))
			sum, _ := Add(f, x[0], x[1])
			atMost("the sum", Degree(sum), max(Degree(x[0]), Degree(x[1])))
			product, _ := Mul(f, x[0], x[1])
			atMost("the product", Degree(product), Degree(x[0])+Degree(x[1]))
		}
		cancelled, _ := Normal(f, sumOf(term(1, m0, m0), term(5, n0), term(primes[f]-1, m0, m0)))
		want(t, "the degree without what cancels", Degree(cancelled), 1)
	}
}

// TestSumsAreARing: sums that must be the same as polynomials have the same normal form.
func TestSumsAreARing(t *testing.T) {
	r := rand.New(rand.NewSource(225))
	for f := range primes {
		for range 200 {
			a, b, c := someSum(r, f, 4, 2), someSum(r, f, 4, 2), wildSum(r, f, 3)
			ab, _ := Mul(f, a, b)
			ba, e := Mul(f, b, a)
			wantSum(t, "the product the other way round", ba, e, ab)
			ac, _ := Mul(f, a, c)
			apart, _ := Add(f, ab, ac)
			both, _ := Add(f, b, c)
			got, e := Mul(f, a, both)
			wantSum(t, "the product of a sum", got, e, apart)
			bc, _ := Mul(f, b, c)
			left, _ := Mul(f, ab, c)
			right, e := Mul(f, a, bc)
			wantSum(t, "the product of three", right, e, left)
		}
	}
}

// P1

// saying is what all functions say of some arguments.
type saying struct {
	value  uint64
	degree int
	same   bool
	text   string
	errors [4]api.Errno // of Value, Normal, Add and Mul
	sums   [3]string    // the texts of what Normal, Add and Mul return
}

func answers(f int, a, b []api.Mono, env api.Env) saying {
	out := saying{degree: Degree(a), same: Same(a, b), text: Text(a)}
	var sums [3][]api.Mono
	out.value, out.errors[0] = Value(f, a, env)
	sums[0], out.errors[1] = Normal(f, a)
	sums[1], out.errors[2] = Add(f, a, b)
	sums[2], out.errors[3] = Mul(f, a, b)
	for i, sum := range sums {
		out.sums[i] = textOf(sum)
	}
	return out
}

func TestAllArgumentsHaveAnAnswerThatStays(t *testing.T) {
	r := rand.New(rand.NewSource(226))
	for _, f := range append([]int{0, 1, 2, 3}, noFields...) {
		near := max(0, min(f, 3))
		for range 200 {
			a, b, env := wildSum(r, near, r.Intn(6)), wildSum(r, near, r.Intn(6)), someEnv(r, near, r.Intn(4))
			once := answers(f, a, b, env)
			want(t, "the second answer", answers(f, copied(a), copied(b), env), once)
			if slices.Contains(noFields, f) {
				none := saying{degree: degreeOf(a), same: same(a, b), text: textOf(a), sums: [3]string{"0", "0", "0"}}
				none.errors = [4]api.Errno{api.ErrArg, api.ErrArg, api.ErrArg, api.ErrArg}
				want(t, "the answer without a field", once, none)
			}
		}
	}
}

// TestLongSums: what becomes short again needs no more room than that, and no list is too long.
func TestLongSums(t *testing.T) {
	n := 1500
	ones := slices.Repeat(sumOf(term(1, n0)), n)
	got, e := Mul(3, ones, ones)
	wantSum(t, "Mul of long sums", got, e, sumOf(term(uint64(n*n), n0, n0)))
	long := slices.Repeat([]api.Var{n0, m0}, 50000)
	ordered := append(slices.Repeat([]api.Var{m0}, 50000), slices.Repeat([]api.Var{n0}, 50000)...)
	got, e = Normal(3, sumOf(term(5, long...), term(6, ordered...)))
	wantSum(t, "Normal of a long monomial", got, e, sumOf(term(11, ordered...)))
	want(t, "Degree of a long monomial", Degree(got), 100000)
	wantValue(t, 3, got, api.Env{Main: []uint64{1}, Next: []uint64{primes[3] - 1}}, 11)
	var many, wanted []api.Mono
	for i := range 100000 {
		many = append(many, term(1, api.Var{Kind: api.VarMain, Index: (i * 7919) % 100000}))
		wanted = append(wanted, term(2, api.Var{Kind: api.VarMain, Index: i}))
	}
	got, e = Add(3, many, many)
	if !same(got, wanted) || e != api.OK {
		t.Errorf("Add of %d monomials is another sum", len(many))
	}
	want(t, "whether a long text is right", Text(many) == textOf(many), true)
}

// Rule 3

// roomy returns a sum whose lists have room behind their ends, filled with other things, and what is behind the ends too.
func roomy(sum []api.Mono) (short, whole []api.Mono) {
	other := term(math.MaxUint32, api.Var{Kind: 77, Index: 7})
	whole = append(copied(sum), other, other, other)
	for i := range whole {
		whole[i].Vars = append(slices.Clone(whole[i].Vars), slices.Repeat(other.Vars, 5)...)
	}
	short = whole[:len(sum)]
	for i := range short {
		short[i].Vars = short[i].Vars[:len(sum[i].Vars)]
	}
	return short, whole
}

// wholeOf returns a copy of a sum with all that is behind the ends of the lists of its variables.
func wholeOf(sum []api.Mono) []api.Mono {
	out := slices.Clone(sum)
	for i, m := range out {
		out[i].Vars = slices.Clone(m.Vars[:cap(m.Vars)])
	}
	return out
}

func TestSumsStayAsTheyAre(t *testing.T) {
	r := rand.New(rand.NewSource(227))
	for f := range primes {
		for range 200 {
			a, wholeA := roomy(someSum(r, f, r.Intn(5), 4))
			b, wholeB := roomy(wildSum(r, f, r.Intn(5)))
			env := someEnv(r, f, 2)
			beforeA, beforeB, envBefore := wholeOf(wholeA), wholeOf(wholeB), copiedEnv(env)
			answers(f, a, b, env)
			answers(f, b, a, env)
			want(t, "whether the first sum stays", same(wholeOf(wholeA), beforeA), true)
			want(t, "whether the second sum stays", same(wholeOf(wholeB), beforeB), true)
			for kind, l := range listsOf(env) {
				want(t, "whether the environment stays", slices.Equal(l, listsOf(envBefore)[kind]), true)
			}
		}
	}
}

// copiedEnv returns an environment that shares no memory with another one.
func copiedEnv(env api.Env) api.Env {
	return api.Env{
		Main: slices.Clone(env.Main), Next: slices.Clone(env.Next), Fixed: slices.Clone(env.Fixed), Public: slices.Clone(env.Public),
		Aux: slices.Clone(env.Aux), AuxNext: slices.Clone(env.AuxNext), Challenge: slices.Clone(env.Challenge),
	}
}

// spoil overwrites a sum and all that is behind the ends of its lists.
func spoil(sum []api.Mono) {
	sum = sum[:cap(sum)]
	for i := range sum {
		vars := sum[i].Vars[:cap(sum[i].Vars)]
		for j := range vars {
			vars[j] = api.Var{Kind: 66, Index: 6}
		}
		sum[i] = term(math.MaxInt32)
	}
}

func TestResultsShareNoMemory(t *testing.T) {
	r := rand.New(rand.NewSource(228))
	for f := range primes {
		for range 200 {
			a, _ := roomy(someSum(r, f, r.Intn(5), 4))
			b, _ := roomy(someSum(r, f, r.Intn(5), 4))
			normal, _ := Normal(f, a)
			unchanged, _ := Normal(f, normal)
			sum, _ := Add(f, a, b)
			product, _ := Mul(f, a, sumOf(term(1)))
			all := [][]api.Mono{a, b, normal, unchanged, sum, product}
			for len(all) > 0 {
				spoiled := r.Intn(len(all))
				var before [][]api.Mono
				for _, l := range all {
					before = append(before, copied(l))
				}
				spoil(all[spoiled])
				all, before = slices.Delete(all, spoiled, spoiled+1), slices.Delete(before, spoiled, spoiled+1)
				for i := range all {
					want(t, "whether the others stay", same(all[i], before[i]), true)
				}
			}
		}
	}
}

func TestTheMonomialsOfAResultShareNoMemory(t *testing.T) {
	r := rand.New(rand.NewSource(229))
	for f := range primes {
		for range 200 {
			sum, _ := Mul(f, someSum(r, f, 4, 3), someSum(r, f, 4, 3))
			for i := range sum {
				before := copied(sum)
				vars := sum[i].Vars[:cap(sum[i].Vars)]
				for j := range vars {
					vars[j] = api.Var{Kind: 66, Index: 6}
				}
				sum[i], before[i] = term(0), term(0)
				want(t, "whether the other monomials stay", same(sum, before), true)
			}
		}
	}
}
