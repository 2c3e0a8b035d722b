package argument

import (
	"fmt"
	"math"
	"math/big"
	"math/rand"
	"slices"
	"testing"

	"attestor/api"
)

// primes contains the P of each field, and twos how often 2 divides P - 1, so that the tests compute without package field.
var (
	primes = []uint64{97, 257, 12289, 998244353}
	twos   = []int{5, 8, 12, 23}
)

// noFields are numbers that are those of no field.
var noFields = []int{-1, -2, -4, 4, 5, 7, 8, 256, math.MinInt, math.MaxInt, math.MinInt32, math.MaxInt32}

const greatest = math.MaxUint64

// These return variables.
func m(i int) api.Var { return api.Var{Kind: api.VarMain, Index: i} }
func n(i int) api.Var { return api.Var{Kind: api.VarNext, Index: i} }
func f(i int) api.Var { return api.Var{Kind: api.VarFixed, Index: i} }
func p(i int) api.Var { return api.Var{Kind: api.VarPublic, Index: i} }

// tuple returns a list of variables, and tuples a list of tuples.
func tuple(vars ...api.Var) []api.Var      { return vars }
func tuples(list ...[]api.Var) [][]api.Var { return list }

// term returns a monomial, and sum a list of monomials.
func term(coef uint64, vars ...api.Var) api.Mono { return api.Mono{Coef: coef, Vars: vars} }
func sum(l ...api.Mono) []api.Mono               { return l }

// numbers returns a list of numbers, and columns a list of columns.
func numbers(l ...uint64) []uint64     { return l }
func columns(l ...[]uint64) [][]uint64 { return l }

// trace returns a trace without public inputs.
func trace(main ...[]uint64) api.Trace { return api.Trace{Main: main} }

// perm and lookup return the systems of the chapter's examples.
func perm() api.System {
	return api.System{Rows: 1, Main: 1, Fixed: columns(numbers(6, 5)), Perms: []api.Perm{{Left: tuples(tuple(m(0))), Right: tuples(tuple(f(0)))}}}
}

func lookup() api.System {
	return api.System{Rows: 1, Main: 2, Fixed: columns(numbers(6, 5)), Lookups: []api.Lookup{{Tuple: tuple(m(0)), Table: tuple(f(0)), Count: m(1)}}}
}

// rich returns a system with two of everything.
func rich(field int) api.System {
	return api.System{Field: field, Rows: 2, Main: 3, Public: 2,
		Fixed: columns(numbers(1, 2, 3, 4), numbers(0, 0, 7, primes[field]-1)),
		Rules: []api.Rule{
			{On: api.OnSteps, Sum: sum(term(1, n(0)), term(primes[field]-1, m(0), f(1)), term(2))},
			{On: api.OnLast, Sum: sum(term(1, m(2)), term(3, p(0), p(1)))},
		},
		Perms: []api.Perm{
			{Left: tuples(tuple(m(0), f(0)), tuple(m(1), f(1))), Right: tuples(tuple(m(2), m(2)), tuple(f(1), m(0)))},
			{Left: tuples(tuple(m(1), m(0), f(0))), Right: tuples(tuple(m(0), m(1), f(1)))},
		},
		Lookups: []api.Lookup{
			{Tuple: tuple(m(1), f(0)), Table: tuple(f(1), f(0)), Count: m(2)},
			{Tuple: tuple(m(2)), Table: tuple(f(0)), Count: m(0)},
		},
	}
}

// list returns n values below some bound, and lists a number of such lists.
func list(r *rand.Rand, n int, bound uint64) []uint64 {
	l := make([]uint64, n)
	for i := range l {
		l[i] = r.Uint64() % bound
	}
	return l
}

func lists(r *rand.Rand, number, n int, bound uint64) [][]uint64 {
	var out [][]uint64
	for range number {
		out = append(out, list(r, n, bound))
	}
	return out
}

// someVar returns one of the variables that a system has of the kinds.
func someVar(r *rand.Rand, s api.System, kinds ...api.VarKind) api.Var {
	number := map[api.VarKind]int{api.VarMain: s.Main, api.VarNext: s.Main, api.VarFixed: len(s.Fixed), api.VarPublic: s.Public}
	for {
		kind := kinds[r.Intn(len(kinds))]
		if number[kind] > 0 {
			return api.Var{Kind: kind, Index: r.Intn(number[kind])}
		}
	}
}

// someTuple returns a tuple of variables that a system has of the kinds.
func someTuple(r *rand.Rand, s api.System, length int, kinds ...api.VarKind) []api.Var {
	var out []api.Var
	for range length {
		out = append(out, someVar(r, s, kinds...))
	}
	return out
}

// someRule returns a valid rule.
func someRule(r *rand.Rand, s api.System) api.Rule {
	out := api.Rule{On: api.On(1 + r.Intn(4))}
	for range r.Intn(4) {
		x := term(r.Uint64() % primes[s.Field])
		if out.On == api.OnFirst || out.On == api.OnLast {
			x.Vars = someTuple(r, s, r.Intn(2), api.VarMain, api.VarFixed)
		} else {
			x.Vars = someTuple(r, s, r.Intn(4), api.VarMain, api.VarNext, api.VarFixed, api.VarPublic)
		}
		out.Sum = append(out.Sum, x)
	}
	return out
}

// somePerm returns a valid permutation.
func somePerm(r *rand.Rand, s api.System) api.Perm {
	var out api.Perm
	length := 1 + r.Intn(4)
	for range 1 + r.Intn(4) {
		out.Left = append(out.Left, someTuple(r, s, length, api.VarMain, api.VarFixed))
		out.Right = append(out.Right, someTuple(r, s, length, api.VarMain, api.VarFixed))
	}
	return out
}

// someLookup returns a valid lookup in a system that has fixed columns.
func someLookup(r *rand.Rand, s api.System) api.Lookup {
	length := 1 + r.Intn(4)
	return api.Lookup{Tuple: someTuple(r, s, length, api.VarMain, api.VarFixed), Table: someTuple(r, s, length, api.VarFixed), Count: someVar(r, s, api.VarMain)}
}

// someSystem returns a valid system.
func someSystem(r *rand.Rand, field int) api.System {
	s := api.System{Field: field, Rows: 1 + r.Intn(4), Main: 1 + r.Intn(4), Public: r.Intn(3)}
	s.Fixed = lists(r, r.Intn(4), 1<<s.Rows, primes[field])
	for range r.Intn(4) {
		s.Rules = append(s.Rules, someRule(r, s))
	}
	for range r.Intn(4) {
		s.Perms = append(s.Perms, somePerm(r, s))
	}
	for range r.Intn(4) {
		if len(s.Fixed) > 0 {
			s.Lookups = append(s.Lookups, someLookup(r, s))
		}
	}
	return s
}

// someTrace returns a trace that fits a system.
func someTrace(r *rand.Rand, s api.System) api.Trace {
	return api.Trace{Public: list(r, s.Public, primes[s.Field]), Main: lists(r, s.Main, 1<<s.Rows, primes[s.Field])}
}

// someEnv returns an environment that has what a system needs, and up to two values more of each kind.
func someEnv(r *rand.Rand, s api.System) api.Env {
	values := func(n int) []uint64 {
		return list(r, n+r.Intn(3), []uint64{2, primes[s.Field], 2 * primes[s.Field], greatest}[r.Intn(4)])
	}
	z := len(s.Perms) + len(s.Lookups)
	return api.Env{Main: values(s.Main), Next: values(s.Main), Fixed: values(len(s.Fixed)), Public: values(s.Public), Aux: values(z), AuxNext: values(z), Challenge: values(2)}
}

// inRow returns the environment of a row of a trace with argument columns and challenges.
func inRow(s api.System, t api.Trace, aux [][]uint64, row int, c, d uint64) api.Env {
	across := func(l [][]uint64, row int) []uint64 {
		var out []uint64
		for _, column := range l {
			out = append(out, column[row])
		}
		return out
	}
	next := (row + 1) % (1 << s.Rows)
	return api.Env{Main: across(t.Main, row), Next: across(t.Main, next), Fixed: across(s.Fixed, row), Public: t.Public,
		Aux: across(aux, row), AuxNext: across(aux, next), Challenge: numbers(c, d)}
}

// copiedTuples returns tuples that share no memory with others.
func copiedTuples(l [][]api.Var) [][]api.Var {
	out := slices.Clone(l)
	for i := range out {
		out[i] = slices.Clone(out[i])
	}
	return out
}

// copiedColumns returns columns that share no memory with others.
func copiedColumns(l [][]uint64) [][]uint64 {
	out := slices.Clone(l)
	for i := range out {
		out[i] = slices.Clone(out[i])
	}
	return out
}

// copied returns a system that shares no memory with another one.
func copied(s api.System) api.System {
	s.Fixed, s.Rules, s.Perms, s.Lookups = copiedColumns(s.Fixed), slices.Clone(s.Rules), slices.Clone(s.Perms), slices.Clone(s.Lookups)
	for i := range s.Rules {
		s.Rules[i].Sum = slices.Clone(s.Rules[i].Sum)
		for j, x := range s.Rules[i].Sum {
			s.Rules[i].Sum[j].Vars = slices.Clone(x.Vars)
		}
	}
	for i, x := range s.Perms {
		s.Perms[i] = api.Perm{Left: copiedTuples(x.Left), Right: copiedTuples(x.Right)}
	}
	for i, x := range s.Lookups {
		s.Lookups[i].Tuple, s.Lookups[i].Table = slices.Clone(x.Tuple), slices.Clone(x.Table)
	}
	return s
}

// copiedTrace returns a trace that shares no memory with another one.
func copiedTrace(t api.Trace) api.Trace {
	return api.Trace{Public: slices.Clone(t.Public), Main: copiedColumns(t.Main)}
}

// listsOf returns pointers to the lists of an environment.
func listsOf(env *api.Env) []*[]uint64 {
	return []*[]uint64{&env.Main, &env.Next, &env.Fixed, &env.Public, &env.Aux, &env.AuxNext, &env.Challenge}
}

// copiedEnv returns an environment that shares no memory with another one.
func copiedEnv(env api.Env) api.Env {
	for _, l := range listsOf(&env) {
		*l = slices.Clone(*l)
	}
	return env
}

// show returns a text that only equal things of the same type have; nil and empty lists are equal.
func show(x any) string { return fmt.Sprint(x) }

// number returns n as a number of any size.
func number(n uint64) *big.Int { return new(big.Int).SetUint64(n) }

// modulo returns x modulo P.
func modulo(field int, x *big.Int) uint64 {
	return new(big.Int).Mod(x, number(primes[field])).Uint64()
}

// plus, minus, times and over compute modulo P, without the program.
func plus(field int, a, b uint64) uint64 {
	return modulo(field, new(big.Int).Add(number(a), number(b)))
}

func minus(field int, a, b uint64) uint64 {
	return modulo(field, new(big.Int).Sub(number(a), number(b)))
}

func times(field int, a, b uint64) uint64 {
	return modulo(field, new(big.Int).Mul(number(a), number(b)))
}

func over(field int, a, b uint64) uint64 {
	return times(field, a, new(big.Int).ModInverse(number(b), number(primes[field])).Uint64())
}

// weightOf returns the weight of values, without the program.
func weightOf(field int, values []uint64, c, d uint64) uint64 {
	total, power := number(c), big.NewInt(1)
	for _, v := range values {
		total.Add(total, new(big.Int).Mul(power, number(v)))
		power.Mul(power, number(d))
	}
	return modulo(field, total)
}

// valueIn returns the value of a variable in an environment.
func valueIn(v api.Var, env api.Env) uint64 {
	return map[api.VarKind][]uint64{api.VarMain: env.Main, api.VarNext: env.Next, api.VarFixed: env.Fixed, api.VarPublic: env.Public}[v.Kind][v.Index]
}

// weightIn returns the weight of a tuple in an environment, and productIn the product of the weights of tuples.
func weightIn(field int, vars []api.Var, env api.Env) uint64 {
	var values []uint64
	for _, v := range vars {
		values = append(values, valueIn(v, env))
	}
	return weightOf(field, values, env.Challenge[0], env.Challenge[1])
}

func productIn(field int, list [][]api.Var, env api.Env) uint64 {
	out := uint64(1)
	for _, vars := range list {
		out = times(field, out, weightIn(field, vars, env))
	}
	return out
}

// valuesOf returns the values of all constraints in an environment that has all that they need, without the program.
func valuesOf(s api.System, env api.Env) []uint64 {
	var out []uint64
	for _, x := range s.Rules {
		total := uint64(0)
		for _, y := range x.Sum {
			product := y.Coef
			for _, v := range y.Vars {
				product = times(s.Field, product, valueIn(v, env))
			}
			total = plus(s.Field, total, product)
		}
		out = append(out, total)
	}
	for i, x := range s.Perms {
		right := times(s.Field, env.AuxNext[i], productIn(s.Field, x.Right, env))
		left := times(s.Field, env.Aux[i], productIn(s.Field, x.Left, env))
		out = append(out, minus(s.Field, right, left), minus(s.Field, env.Aux[i], 1))
	}
	for j, x := range s.Lookups {
		i := len(s.Perms) + j
		u, t := weightIn(s.Field, x.Tuple, env), weightIn(s.Field, x.Table, env)
		step := times(s.Field, times(s.Field, minus(s.Field, env.AuxNext[i], env.Aux[i]), u), t)
		counted := times(s.Field, valueIn(x.Count, env), u)
		out = append(out, plus(s.Field, minus(s.Field, step, t), counted), env.Aux[i]%primes[s.Field])
	}
	return out
}

// columnsOfTrace returns the argument columns, and nothing if a weight by which they divide is 0, without the program.
func columnsOfTrace(s api.System, t api.Trace, c, d uint64) ([][]uint64, bool) {
	var out [][]uint64
	defined := true
	add := func(first uint64, next func(env api.Env, z uint64) uint64, divisor func(env api.Env) uint64) {
		z := numbers(first)
		for row := range 1 << s.Rows {
			env := inRow(s, t, nil, row, c, d)
			if divisor(env) == 0 {
				defined = false
				return
			}
			z = append(z, next(env, z[row]))
		}
		out = append(out, z[:1<<s.Rows])
	}
	for _, x := range s.Perms {
		right := func(env api.Env) uint64 { return productIn(s.Field, x.Right, env) }
		add(1, func(env api.Env, z uint64) uint64 {
			return over(s.Field, times(s.Field, z, productIn(s.Field, x.Left, env)), right(env))
		}, right)
	}
	for _, x := range s.Lookups {
		add(0, func(env api.Env, z uint64) uint64 {
			used := over(s.Field, 1, weightIn(s.Field, x.Tuple, env))
			return minus(s.Field, plus(s.Field, z, used), over(s.Field, valueIn(x.Count, env), weightIn(s.Field, x.Table, env)))
		}, func(env api.Env) uint64 {
			return times(s.Field, weightIn(s.Field, x.Tuple, env), weightIn(s.Field, x.Table, env))
		})
	}
	return out, defined
}

// invalid returns systems that are not valid, each for another reason.
func invalid(field int) []api.System {
	var out []api.System
	change := func(do func(s *api.System)) {
		s := rich(field)
		do(&s)
		out = append(out, s)
	}
	change(func(s *api.System) { s.Field = 4 })
	change(func(s *api.System) { s.Field = -1 })
	change(func(s *api.System) { s.Rows = 0 })
	change(func(s *api.System) { s.Rows = 3 })
	change(func(s *api.System) { s.Main = 2 })
	change(func(s *api.System) { s.Public = 17 })
	change(func(s *api.System) { s.Fixed[0][3] = primes[field] })
	change(func(s *api.System) { s.Fixed[1] = s.Fixed[1][:3] })
	change(func(s *api.System) { s.Rules[1].On = api.OnNone })
	change(func(s *api.System) { s.Rules[0].Sum[0].Coef = greatest })
	change(func(s *api.System) { s.Rules[0].Sum[0].Vars[0].Index = 3 })
	change(func(s *api.System) { s.Perms[0].Left = nil })
	change(func(s *api.System) { s.Perms[1].Right[0][1] = n(0) })
	change(func(s *api.System) { s.Perms = slices.Repeat(s.Perms, 3) })
	change(func(s *api.System) { s.Lookups[0].Table[0] = m(0) })
	change(func(s *api.System) { s.Lookups[1].Count = f(0) })
	change(func(s *api.System) { s.Lookups[0].Tuple[0].Index = -1 })
	return append(out, api.System{}, api.System{Field: field, Rows: 1}, api.System{Field: field, Main: 1})
}

// want reports a result that is not the one that is wanted.
func want[T comparable](t *testing.T, what string, got, wanted T) {
	t.Helper()
	if got != wanted {
		t.Errorf("%s is %v, not %v", what, got, wanted)
	}
}

// wantValues reports values of constraints that are not the ones that are wanted.
func wantValues(t *testing.T, s api.System, env api.Env, wanted ...uint64) {
	t.Helper()
	got, e := Values(s, env)
	if !slices.Equal(got, wanted) || e != api.OK {
		t.Errorf("Values of %v in %v is %v, %d, not %v", s, env, got, e, wanted)
	}
}

// wantNoValues reports values of constraints, or another error.
func wantNoValues(t *testing.T, s api.System, env api.Env, wanted api.Errno) {
	t.Helper()
	got, e := Values(s, env)
	if len(got) != 0 || e != wanted {
		t.Errorf("Values of %v in %v is %v, %d, not the error %d", s, env, got, e, wanted)
	}
}

// wantColumns reports columns that are not the ones that are wanted.
func wantColumns(t *testing.T, s api.System, x api.Trace, c, d uint64, wanted ...[]uint64) {
	t.Helper()
	got, e := Columns(s, x, c, d)
	if show(got) != show(wanted) || e != api.OK {
		t.Errorf("Columns of %v in %v with %d and %d is %v, %d, not %v", x, s, c, d, got, e, wanted)
	}
}

// wantNoColumns reports columns, or another error.
func wantNoColumns(t *testing.T, s api.System, x api.Trace, c, d uint64, wanted api.Errno) {
	t.Helper()
	got, e := Columns(s, x, c, d)
	if len(got) != 0 || e != wanted {
		t.Errorf("Columns of %v in %v with %d and %d is %v, %d, not the error %d", x, s, c, d, got, e, wanted)
	}
}
