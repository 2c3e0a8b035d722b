package mono

import (
	"fmt"
	"math"
	"math/big"
	"math/rand"
	"slices"
	"strings"
	"testing"

	"attestor/api"
)

// primes contains the P of each field, so that the tests compute without package field.
var primes = []uint64{97, 257, 12289, 998244353}

// noFields are numbers that are those of no field.
var noFields = []int{-1, -2, -4, 4, 5, 7, 8, 256, math.MinInt, math.MaxInt, math.MinInt32, math.MaxInt32}

// kinds are the kinds of variables that an environment has, and noKinds some of the others.
var (
	kinds   = []api.VarKind{api.VarMain, api.VarNext, api.VarFixed, api.VarPublic, api.VarAux, api.VarAuxNext, api.VarChallenge}
	noKinds = []api.VarKind{api.VarNone, 8, 9, 99, 127, 128, 254, 255}
)

// wildIndexes are any indexes, not in order.
var wildIndexes = []int{0, 1, 2, 9, 10, 11, 255, 256, 257, 1 << 32, 1<<32 + 1, math.MaxInt32, math.MaxInt, -1, -2, -10, -256, math.MinInt32, math.MinInt}

const greatest = math.MaxUint64

// Some variables.
var (
	m0, m1 = api.Var{Kind: api.VarMain}, api.Var{Kind: api.VarMain, Index: 1}
	n0     = api.Var{Kind: api.VarNext}
	f0     = api.Var{Kind: api.VarFixed}
	p0     = api.Var{Kind: api.VarPublic}
	a0     = api.Var{Kind: api.VarAux}
	b0     = api.Var{Kind: api.VarAuxNext}
	c0     = api.Var{Kind: api.VarChallenge}
)

// term returns a monomial.
func term(coef uint64, vars ...api.Var) api.Mono { return api.Mono{Coef: coef, Vars: vars} }

// sumOf returns a sum of monomials.
func sumOf(l ...api.Mono) []api.Mono { return l }

// copied returns a sum that shares no memory with another one.
func copied(sum []api.Mono) []api.Mono {
	out := slices.Clone(sum)
	for i := range out {
		out[i].Vars = slices.Clone(out[i].Vars)
	}
	return out
}

// same reports whether sums are the same to the last bit, without the program; nil and empty lists are the same.
func same(a, b []api.Mono) bool {
	if len(a) != len(b) {
		return false
	}
	for i := range a {
		if a[i].Coef != b[i].Coef || len(a[i].Vars) != len(b[i].Vars) {
			return false
		}
		for j := range a[i].Vars {
			if a[i].Vars[j] != b[i].Vars[j] {
				return false
			}
		}
	}
	return true
}

// edges returns numbers at which a field could go wrong: small ones, those around multiples of P, and the greatest ones.
func edges(f int) []uint64 {
	p := primes[f]
	last := greatest / p * p // the greatest multiple of P
	return []uint64{
		0, 1, 2, 3, p / 2, p - 3, p - 2, p - 1, p, p + 1, 2*p - 1, 2 * p, p*p - 1, p * p,
		1<<32 - 1, 1 << 32, 1 << 63, last - 1, last, last + 1, greatest - 1, greatest,
	}
}

// someNumber returns a number of any size, more often than by chance one at which a field could go wrong.
func someNumber(r *rand.Rand, f int) uint64 {
	if few := edges(f); r.Intn(2) == 0 {
		return few[r.Intn(len(few))]
	}
	return r.Uint64()
}

// someEnv returns an environment with n values of each kind.
func someEnv(r *rand.Rand, f, n int) api.Env {
	list := func() []uint64 {
		l := make([]uint64, n)
		for i := range l {
			l[i] = someNumber(r, f)
		}
		return l
	}
	return api.Env{Main: list(), Next: list(), Fixed: list(), Public: list(), Aux: list(), AuxNext: list(), Challenge: list()}
}

// listsOf returns the values of an environment by kinds.
func listsOf(env api.Env) map[api.VarKind][]uint64 {
	return map[api.VarKind][]uint64{
		api.VarMain: env.Main, api.VarNext: env.Next, api.VarFixed: env.Fixed, api.VarPublic: env.Public,
		api.VarAux: env.Aux, api.VarAuxNext: env.AuxNext, api.VarChallenge: env.Challenge,
	}
}

// someSum returns a sum of n monomials with up to width variables, which are few enough that several monomials have the same ones. All its variables are in an environment with two values of each kind.
func someSum(r *rand.Rand, f, n, width int) []api.Mono {
	few := kinds[r.Intn(len(kinds)-1):][:2]
	if r.Intn(3) == 0 {
		few = kinds
	}
	var out []api.Mono
	for range n {
		m := term(someNumber(r, f))
		for range r.Intn(width + 1) {
			m.Vars = append(m.Vars, api.Var{Kind: few[r.Intn(len(few))], Index: r.Intn(2)})
		}
		out = append(out, m)
	}
	return out
}

// wildSum returns a sum of n monomials with any variables, of which some are the same in another order.
func wildSum(r *rand.Rand, f, n int) []api.Mono {
	var out []api.Mono
	for range n {
		m := term(someNumber(r, f))
		if len(out) > 0 && r.Intn(3) == 0 {
			m.Vars = slices.Clone(out[r.Intn(len(out))].Vars)
			r.Shuffle(len(m.Vars), func(i, j int) { m.Vars[i], m.Vars[j] = m.Vars[j], m.Vars[i] })
			out = append(out, m)
			continue
		}
		for range r.Intn(4) {
			all := slices.Concat(kinds, noKinds)
			m.Vars = append(m.Vars, api.Var{Kind: all[r.Intn(len(all))], Index: wildIndexes[r.Intn(len(wildIndexes))]})
		}
		out = append(out, m)
	}
	return out
}

// modulo returns x modulo P.
func modulo(f int, x *big.Int) uint64 {
	return new(big.Int).Mod(x, new(big.Int).SetUint64(primes[f])).Uint64()
}

// plus returns a + b modulo P, without the program.
func plus(f int, a, b uint64) uint64 {
	return modulo(f, new(big.Int).Add(new(big.Int).SetUint64(a), new(big.Int).SetUint64(b)))
}

// times returns a b modulo P, without the program.
func times(f int, a, b uint64) uint64 {
	return modulo(f, new(big.Int).Mul(new(big.Int).SetUint64(a), new(big.Int).SetUint64(b)))
}

// valueOf returns the value of a sum whose variables are all in an environment, without the program.
func valueOf(f int, sum []api.Mono, env api.Env) uint64 {
	lists, total := listsOf(env), uint64(0)
	for _, m := range sum {
		product := m.Coef
		for _, v := range m.Vars {
			product = times(f, product, lists[v.Kind][v.Index])
		}
		total = plus(f, total, product)
	}
	return total
}

// degreeOf returns the degree of a sum, without the program.
func degreeOf(sum []api.Mono) int {
	most := 0
	for _, m := range sum {
		n := len(m.Vars)
		for _, v := range m.Vars {
			if v.Kind == api.VarNone || v.Kind == api.VarPublic || v.Kind >= api.VarChallenge {
				n--
			}
		}
		most = max(most, n)
	}
	return most
}

// isBefore reports whether v comes before w in the order of variables.
func isBefore(v, w api.Var) bool {
	return v.Kind < w.Kind || v.Kind == w.Kind && v.Index < w.Index
}

// isListBefore reports whether v comes before w in the order of lists of variables.
func isListBefore(v, w []api.Var) bool {
	if len(v) != len(w) {
		return len(v) < len(w)
	}
	for i := range v {
		if v[i] != w[i] {
			return isBefore(v[i], w[i])
		}
	}
	return false
}

// normalOf returns the normal form of a sum, without the program: everything is inserted at its place.
func normalOf(f int, sum []api.Mono) []api.Mono {
	var out []api.Mono
	for _, m := range sum {
		var vars []api.Var
		for _, v := range m.Vars {
			at := 0
			for at < len(vars) && !isBefore(v, vars[at]) {
				at++
			}
			vars = slices.Insert(vars, at, v)
		}
		at := 0
		for at < len(out) && isListBefore(out[at].Vars, vars) {
			at++
		}
		if at == len(out) || isListBefore(vars, out[at].Vars) {
			out = slices.Insert(out, at, term(0, vars...))
		}
		out[at].Coef = plus(f, out[at].Coef, m.Coef)
	}
	return slices.DeleteFunc(out, func(m api.Mono) bool { return m.Coef == 0 })
}

// productsOf returns all products of a monomial of a and one of b, without the program.
func productsOf(f int, a, b []api.Mono) []api.Mono {
	var out []api.Mono
	for _, x := range a {
		for _, y := range b {
			out = append(out, term(times(f, x.Coef, y.Coef), slices.Concat(x.Vars, y.Vars)...))
		}
	}
	return out
}

// textOf returns the text of a sum, without the program.
func textOf(sum []api.Mono) string {
	if len(sum) == 0 {
		return "0"
	}
	names := map[api.VarKind]string{1: "main", 2: "next", 3: "fixed", 4: "public", 5: "aux", 6: "auxnext", 7: "challenge"}
	var out []string
	for _, m := range sum {
		s := fmt.Sprint(m.Coef)
		for _, v := range m.Vars {
			name := names[v.Kind]
			if name == "" {
				name = "var"
			}
			s += fmt.Sprintf("*%s%d", name, v.Index)
		}
		out = append(out, s)
	}
	return strings.Join(out, " + ")
}

// want reports a result that is not the one that is wanted.
func want[T comparable](t *testing.T, what string, got, wanted T) {
	t.Helper()
	if got != wanted {
		t.Errorf("%s is %v, not %v", what, got, wanted)
	}
}

// wantValue reports a value that is not the one that is wanted, or an error.
func wantValue(t *testing.T, f int, sum []api.Mono, env api.Env, wanted uint64) {
	t.Helper()
	got, e := Value(f, sum, env)
	if got != wanted || e != api.OK {
		t.Errorf("Value in the field %d of %s in %v is %d, %d, not %d", f, textOf(sum), env, got, e, wanted)
	}
}

// wantNoValue reports a value that is not the error that is wanted.
func wantNoValue(t *testing.T, f int, sum []api.Mono, env api.Env, wanted api.Errno) {
	t.Helper()
	got, e := Value(f, sum, env)
	if got != 0 || e != wanted {
		t.Errorf("Value in the field %d of %s in %v is %d, %d, not the error %d", f, textOf(sum), env, got, e, wanted)
	}
}

// wantSum reports a sum that is not the one that is wanted, or an error.
func wantSum(t *testing.T, what string, got []api.Mono, e api.Errno, wanted []api.Mono) {
	t.Helper()
	if !same(got, wanted) || e != api.OK {
		t.Errorf("%s is %s, %d, not %s", what, textOf(got), e, textOf(wanted))
	}
}

// wantNoSum reports a result that is not the error that is wanted.
func wantNoSum(t *testing.T, what string, got []api.Mono, e, wanted api.Errno) {
	t.Helper()
	if len(got) != 0 || e != wanted {
		t.Errorf("%s is %s, %d, not the error %d", what, textOf(got), e, wanted)
	}
}
