package compose

import (
	"fmt"
	"math"
	"math/rand"
	"slices"
	"testing"

	"attestor/api"
	"attestor/argument"
	"attestor/transform"
)

// primes contains the P of each field, generators its generator, and twos how often 2 divides P - 1, so that the tests compute without package field.
var (
	primes     = []uint64{97, 257, 12289, 998244353}
	generators = []uint64{5, 3, 11, 3}
	twos       = []int{5, 8, 12, 23}
)

// ons contains all that a rule may be asked in.
var ons = []api.On{api.OnAll, api.OnSteps, api.OnFirst, api.OnLast}

// noFields are numbers that are those of no field.
var noFields = []int{-1, -2, -4, 4, 5, 7, 8, 256, math.MinInt, math.MaxInt, math.MinInt32, math.MaxInt32}

const greatest = math.MaxUint64

// These return variables.
func m(i int) api.Var { return api.Var{Kind: api.VarMain, Index: i} }
func n(i int) api.Var { return api.Var{Kind: api.VarNext, Index: i} }
func f(i int) api.Var { return api.Var{Kind: api.VarFixed, Index: i} }
func p(i int) api.Var { return api.Var{Kind: api.VarPublic, Index: i} }

// tuple returns a list of variables, and tuples a list of tuples.
func tuple(vars ...api.Var) []api.Var      { return vars }
func tuples(list ...[]api.Var) [][]api.Var { return list }

// term returns a monomial, and sum a list of monomials.
func term(coef uint64, vars ...api.Var) api.Mono { return api.Mono{Coef: coef, Vars: vars} }
func sum(l ...api.Mono) []api.Mono               { return l }

// numbers returns a list of numbers, and columns a list of columns.
func numbers(l ...uint64) []uint64     { return l }
func columns(l ...[]uint64) [][]uint64 { return l }

// counter returns the counter of chapter 13 with 2^rows rows.
func counter(field, rows int) api.System {
	step := sum(term(1, n(0)), term(primes[field]-1, m(0)), term(primes[field]-1))
	return api.System{Field: field, Rows: rows, Main: 1, Rules: []api.Rule{{On: api.OnSteps, Sum: step}}}
}

// ofDegree returns a system of two rows with one rule of a degree.
func ofDegree(field, degree int) api.System {
	s := counter(field, 1)
	s.Rules[0].Sum = sum(term(1, slices.Repeat(tuple(m(0)), degree)...))
	return s
}

// rich returns a system with two of everything, whose degree is 3.
func rich(field int) api.System {
	return api.System{Field: field, Rows: 2, Main: 3, Public: 2,
		Fixed: columns(numbers(1, 2, 3, 4), numbers(0, 0, 7, primes[field]-1)),
		Rules: []api.Rule{
			{On: api.OnSteps, Sum: sum(term(1, n(0)), term(primes[field]-1, m(0), f(1)), term(2))},
			{On: api.OnLast, Sum: sum(term(1, m(2)), term(3, p(0), p(1)))},
		},
		Perms: []api.Perm{
			{Left: tuples(tuple(m(0), f(0)), tuple(m(1), f(1))), Right: tuples(tuple(m(2), m(2)), tuple(f(1), m(0)))},
			{Left: tuples(tuple(m(1), m(0), f(0))), Right: tuples(tuple(m(0), m(1), f(1)))},
		},
		Lookups: []api.Lookup{
			{Tuple: tuple(m(1), f(0)), Table: tuple(f(1), f(0)), Count: m(2)},
			{Tuple: tuple(m(2)), Table: tuple(f(0)), Count: m(0)},
		},
	}
}

// invalid returns systems that are not valid, each for another reason.
func invalid(field int) []api.System {
	var out []api.System
	change := func(do func(s *api.System)) {
		s := rich(field)
		do(&s)
		out = append(out, s)
	}
	change(func(s *api.System) { s.Field = 4 })
	change(func(s *api.System) { s.Field = -1 })
	change(func(s *api.System) { s.Rows = 0 })
	change(func(s *api.System) { s.Rows = 3 })
	change(func(s *api.System) { s.Rows = math.MinInt })
	change(func(s *api.System) { s.Rows, s.Fixed, s.Lookups, s.Perms, s.Rules = 14, nil, nil, nil, nil })
	change(func(s *api.System) { s.Main = 2 })
	change(func(s *api.System) { s.Public = 17 })
	change(func(s *api.System) { s.Fixed[0][3] = primes[field] })
	change(func(s *api.System) { s.Fixed[1] = s.Fixed[1][:3] })
	change(func(s *api.System) { s.Rules[1].On = api.OnNone })
	change(func(s *api.System) { s.Rules[0].Sum[0].Coef = greatest })
	change(func(s *api.System) { s.Rules[0].Sum[0].Vars = slices.Repeat(tuple(m(0)), 9) })
	change(func(s *api.System) { s.Perms = slices.Repeat(s.Perms, 3) })
	change(func(s *api.System) { s.Perms[1].Right[0][1] = n(0) })
	change(func(s *api.System) { s.Lookups[1].Count = f(0) })
	return append(out, api.System{}, api.System{Field: field, Rows: 1}, api.System{Field: field, Main: 1})
}

// list returns n values below some bound, and lists a number of such lists.
func list(r *rand.Rand, n int, bound uint64) []uint64 {
	l := make([]uint64, n)
	for i := range l {
		l[i] = r.Uint64() % bound
	}
	return l
}

func lists(r *rand.Rand, number, n int, bound uint64) [][]uint64 {
	var out [][]uint64
	for range number {
		out = append(out, list(r, n, bound))
	}
	return out
}

// someTuple returns a tuple of variables that a system has of the kinds.
func someTuple(r *rand.Rand, s api.System, length int, kinds ...api.VarKind) []api.Var {
	number := map[api.VarKind]int{api.VarMain: s.Main, api.VarNext: s.Main, api.VarFixed: len(s.Fixed), api.VarPublic: s.Public}
	var out []api.Var
	for len(out) < length {
		kind := kinds[r.Intn(len(kinds))]
		if number[kind] > 0 {
			out = append(out, api.Var{Kind: kind, Index: r.Intn(number[kind])})
		}
	}
	return out
}

// someRule returns a valid rule of at most some degree, which is not 0.
func someRule(r *rand.Rand, s api.System, degree int) api.Rule {
	out := api.Rule{On: ons[r.Intn(4)]}
	kinds := []api.VarKind{api.VarMain, api.VarNext, api.VarFixed}
	if out.On == api.OnFirst || out.On == api.OnLast {
		kinds, degree = []api.VarKind{api.VarMain, api.VarFixed}, 1
	}
	for range r.Intn(4) {
		x := term(r.Uint64()%primes[s.Field], someTuple(r, s, r.Intn(degree+1), kinds...)...)
		if s.Public > 0 && len(x.Vars) < 8 {
			x.Vars = append(x.Vars, someTuple(r, s, r.Intn(2), api.VarPublic)...)
		}
		out.Sum = append(out.Sum, x)
	}
	return out
}

// somePerm returns a valid permutation with some number of tuples on each side.
func somePerm(r *rand.Rand, s api.System, tuples int) api.Perm {
	var out api.Perm
	length := 1 + r.Intn(2)
	for range tuples {
		out.Left = append(out.Left, someTuple(r, s, length, api.VarMain, api.VarFixed))
		out.Right = append(out.Right, someTuple(r, s, length, api.VarMain, api.VarFixed))
	}
	return out
}

// someLookup returns a valid lookup in a system that has fixed columns.
func someLookup(r *rand.Rand, s api.System) api.Lookup {
	length := 1 + r.Intn(2)
	return api.Lookup{Tuple: someTuple(r, s, length, api.VarMain, api.VarFixed), Table: someTuple(r, s, length, api.VarFixed), Count: someTuple(r, s, 1, api.VarMain)[0]}
}

// someSystem returns a valid system for which the blow-up is possible.
func someSystem(r *rand.Rand, field, blow int) api.System {
	s := api.System{Field: field, Rows: 1 + r.Intn(min(3, twos[field]-blow)), Main: 1 + r.Intn(3), Public: r.Intn(3)}
	if field == 1 && s.Rows+blow == 8 {
		s.Rows--
	}
	s.Fixed = lists(r, r.Intn(3), 1<<s.Rows, primes[field])
	degree := min(8, 1<<blow/2)
	for range r.Intn(4) {
		s.Rules = append(s.Rules, someRule(r, s, degree))
	}
	for range r.Intn(3) {
		if degree > 1 {
			s.Perms = append(s.Perms, somePerm(r, s, 1+r.Intn(min(4, degree-1))))
		}
	}
	for range r.Intn(3) {
		if degree > 2 && len(s.Fixed) > 0 {
			s.Lookups = append(s.Lookups, someLookup(r, s))
		}
	}
	return s
}

// arguments returns how many argument columns a system has.
func arguments(s api.System) int { return len(s.Perms) + len(s.Lookups) }

// someEnv returns an environment that has what a system needs, and up to two values more of each kind.
func someEnv(r *rand.Rand, s api.System) api.Env {
	values := func(n int) []uint64 {
		return list(r, n+r.Intn(3), []uint64{2, primes[s.Field], 2 * primes[s.Field], greatest}[r.Intn(4)])
	}
	z := arguments(s)
	return api.Env{Main: values(s.Main), Next: values(s.Main), Fixed: values(len(s.Fixed)), Public: values(s.Public), Aux: values(z), AuxNext: values(z), Challenge: values(2)}
}

// someWide returns wide columns of any values.
func someWide(r *rand.Rand, s api.System, blow int) api.Wide {
	size, p := 1<<(s.Rows+blow), primes[s.Field]
	return api.Wide{Blow: blow, Fixed: lists(r, len(s.Fixed), size, p), Main: lists(r, s.Main, size, p), Aux: lists(r, arguments(s), size, p),
		Public: list(r, s.Public, p), Challenge: list(r, 2+r.Intn(2), p)}
}

// widened returns the wide columns of columns.
func widened(t *testing.T, field, blow int, l [][]uint64) [][]uint64 {
	t.Helper()
	var out [][]uint64
	for _, column := range l {
		v, e := transform.Widen(field, column, blow)
		want(t, "the error of Widen", e, api.OK)
		out = append(out, v)
	}
	return out
}

// wide returns the wide columns of a trace with argument columns and challenges.
func wide(t *testing.T, s api.System, x api.Trace, aux [][]uint64, blow int, challenges ...uint64) api.Wide {
	t.Helper()
	return api.Wide{Blow: blow, Fixed: widened(t, s.Field, blow, s.Fixed), Main: widened(t, s.Field, blow, x.Main), Aux: widened(t, s.Field, blow, aux),
		Public: x.Public, Challenge: challenges}
}

// copiedTuples returns tuples that share no memory with others.
func copiedTuples(l [][]api.Var) [][]api.Var {
	out := slices.Clone(l)
	for i := range out {
		out[i] = slices.Clone(out[i])
	}
	return out
}

// copiedColumns returns columns that share no memory with others.
func copiedColumns(l [][]uint64) [][]uint64 {
	out := slices.Clone(l)
	for i := range out {
		out[i] = slices.Clone(out[i])
	}
	return out
}

// copied returns a system that shares no memory with another one.
func copied(s api.System) api.System {
	s.Fixed, s.Rules, s.Perms, s.Lookups = copiedColumns(s.Fixed), slices.Clone(s.Rules), slices.Clone(s.Perms), slices.Clone(s.Lookups)
	for i := range s.Rules {
		s.Rules[i].Sum = slices.Clone(s.Rules[i].Sum)
		for j, x := range s.Rules[i].Sum {
			s.Rules[i].Sum[j].Vars = slices.Clone(x.Vars)
		}
	}
	for i, x := range s.Perms {
		s.Perms[i] = api.Perm{Left: copiedTuples(x.Left), Right: copiedTuples(x.Right)}
	}
	for i, x := range s.Lookups {
		s.Lookups[i].Tuple, s.Lookups[i].Table = slices.Clone(x.Tuple), slices.Clone(x.Table)
	}
	return s
}

// copiedWide returns wide columns that share no memory with others.
func copiedWide(w api.Wide) api.Wide {
	w.Fixed, w.Main, w.Aux = copiedColumns(w.Fixed), copiedColumns(w.Main), copiedColumns(w.Aux)
	w.Public, w.Challenge = slices.Clone(w.Public), slices.Clone(w.Challenge)
	return w
}

// listsOf returns pointers to the lists of an environment.
func listsOf(env *api.Env) []*[]uint64 {
	return []*[]uint64{&env.Main, &env.Next, &env.Fixed, &env.Public, &env.Aux, &env.AuxNext, &env.Challenge}
}

// show returns a text that only equal things of the same type have; nil and empty lists are equal.
func show(x any) string { return fmt.Sprint(x) }

// plus, minus, times and over compute modulo P, without the program. No P is so great that a product of elements wraps around.
func plus(field int, a, b uint64) uint64 {
	return (a%primes[field] + b%primes[field]) % primes[field]
}

func minus(field int, a, b uint64) uint64 {
	return plus(field, a, primes[field]-b%primes[field])
}

func times(field int, a, b uint64) uint64 {
	return a % primes[field] * (b % primes[field]) % primes[field]
}

func over(field int, a, b uint64) uint64 {
	return times(field, a, power(field, b, int(primes[field])-2))
}

// power returns x to the power n.
func power(field int, x uint64, n int) uint64 {
	out := uint64(1)
	for ; n > 0; n /= 2 {
		if n%2 == 1 {
			out = times(field, out, x)
		}
		x = times(field, x, x)
	}
	return out
}

// point returns the point i of the subgroup with 2^k points.
func point(field, k, i int) uint64 {
	return power(field, generators[field], (int(primes[field])-1)>>k*i)
}

// widePoint returns the wide point i, of which there are 2^k.
func widePoint(field, k, i int) uint64 {
	return times(field, generators[field], point(field, k, i))
}

// asked returns the rows in which a constraint is asked.
func asked(rows int, on api.On) []int {
	var all []int
	for row := range 1 << rows {
		all = append(all, row)
	}
	last := len(all) - 1
	return map[api.On][]int{api.OnAll: all, api.OnSteps: all[:last], api.OnFirst: all[:1], api.OnLast: all[last:]}[on]
}

// divisorOf returns the divisor, the product of x less each point of a row in which the constraint is asked, without the program.
func divisorOf(field, rows int, on api.On, x uint64) uint64 {
	out := uint64(1)
	for _, i := range asked(rows, on) {
		out = times(field, out, minus(field, x, point(field, rows, i)))
	}
	return out
}

// compositionOf returns the composition in an environment, and false if it would divide by 0. The values of the constraints are those of package argument.
func compositionOf(s api.System, env api.Env, x, a uint64) (uint64, bool) {
	values, _ := argument.Values(s, env)
	total := uint64(0)
	for j, on := range argument.Ons(s) {
		d := divisorOf(s.Field, s.Rows, on, x)
		if d == 0 {
			return 0, false
		}
		total = plus(s.Field, total, times(s.Field, power(s.Field, a, j), over(s.Field, values[j], d)))
	}
	return total, true
}

// inWideRow returns the environment of a wide row.
func inWideRow(w api.Wide, row int) api.Env {
	var env api.Env
	for _, column := range w.Main {
		env.Main, env.Next = append(env.Main, column[row]), append(env.Next, column[(row+1<<w.Blow)%len(column)])
	}
	for _, column := range w.Aux {
		env.Aux, env.AuxNext = append(env.Aux, column[row]), append(env.AuxNext, column[(row+1<<w.Blow)%len(column)])
	}
	for _, column := range w.Fixed {
		env.Fixed = append(env.Fixed, column[row])
	}
	env.Public, env.Challenge = w.Public, w.Challenge
	return env
}

// coefficients returns the coefficients of the polynomial that has values at the wide points, without the program.
func coefficients(field, k int, v []uint64) []uint64 {
	var out []uint64
	for j := range v {
		total := uint64(0)
		for i, x := range v {
			total = plus(field, total, times(field, x, point(field, k, -i*j&(len(v)-1))))
		}
		out = append(out, over(field, total, times(field, uint64(len(v)), power(field, generators[field], j))))
	}
	return out
}

// eval returns the value of a polynomial at x.
func eval(field int, h []uint64, x uint64) uint64 {
	total := uint64(0)
	for j, c := range h {
		total = plus(field, total, times(field, c, power(field, x, j)))
	}
	return total
}

// degreeOf returns the degree of a valid system, without the program.
func degreeOf(s api.System) int {
	degree := 1
	for _, x := range s.Rules {
		for _, y := range x.Sum {
			isPublic := func(v api.Var) bool { return v.Kind == api.VarPublic }
			degree = max(degree, len(slices.DeleteFunc(slices.Clone(y.Vars), isPublic)))
		}
	}
	for _, x := range s.Perms {
		degree = max(degree, 1+len(x.Left))
	}
	if len(s.Lookups) > 0 {
		degree = max(degree, 3)
	}
	return degree
}

// columnsOf returns the wide columns of the segments, and false if the polynomial is of too high a degree, without the program.
func columnsOf(s api.System, w api.Wide, a uint64) ([][]uint64, bool) {
	k := s.Rows + w.Blow
	var v []uint64
	for i := range 1 << k {
		x, _ := compositionOf(s, inWideRow(w, i), widePoint(s.Field, k, i), a)
		v = append(v, x)
	}
	h := coefficients(s.Field, k, v)
	number := max(1, degreeOf(s)-1)
	var out [][]uint64
	for j := range number {
		var column []uint64
		for i := range 1 << k {
			column = append(column, eval(s.Field, h[j<<s.Rows:(j+1)<<s.Rows], widePoint(s.Field, k, i)))
		}
		out = append(out, column)
	}
	return out, !slices.ContainsFunc(h[number<<s.Rows:], func(c uint64) bool { return c != 0 })
}

// want reports a result that is not the one that is wanted.
func want[T comparable](t *testing.T, what string, got, wanted T) {
	t.Helper()
	if got != wanted {
		t.Errorf("%s is %v, not %v", what, got, wanted)
	}
}

// wantAt reports a composition that is not the one that is wanted, and wantNotAt one that should not be there.
func wantAt(t *testing.T, s api.System, env api.Env, x, a, wanted uint64) {
	t.Helper()
	if got, e := At(s, env, x, a); got != wanted || e != api.OK {
		t.Errorf("At %d with %d of %v in %v is %d, %d, not %d", x, a, s, env, got, e, wanted)
	}
}

func wantNotAt(t *testing.T, s api.System, env api.Env, x, a uint64, wanted api.Errno) {
	t.Helper()
	if got, e := At(s, env, x, a); got != 0 || e != wanted {
		t.Errorf("At %d with %d of %v in %v is %d, %d, not the error %d", x, a, s, env, got, e, wanted)
	}
}

// wantColumns reports columns that are not the ones that are wanted.
func wantColumns(t *testing.T, s api.System, w api.Wide, a uint64, wanted ...[]uint64) {
	t.Helper()
	got, e := Columns(s, w, a)
	if show(got) != show(wanted) || e != api.OK {
		t.Errorf("Columns with %d of %v for %v is %v, %d, not %v", a, w, s, got, e, wanted)
	}
}

// wantNoColumns reports columns, or another error.
func wantNoColumns(t *testing.T, what string, s api.System, w api.Wide, a uint64, wanted api.Errno) {
	t.Helper()
	got, e := Columns(s, w, a)
	if len(got) != 0 || e != wanted {
		t.Errorf("Columns with %d of %s is %v, %d, not the error %d", a, what, got, e, wanted)
	}
}
