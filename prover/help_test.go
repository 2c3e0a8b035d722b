package prover

import (
	"math"
	"math/rand"
	"reflect"
	"slices"
	"testing"

	"attestor/api"
)

// The numbers of the fields and the exponents of their sponges, so that the tests compute without the program.
var (
	primes     = []uint64{97, 257, 12289, 998244353}
	generators = []uint64{5, 3, 11, 3}
	twos       = []int{5, 8, 12, 23}
	mixing     = []int{5, 3, 5, 3}
)

// ons contains all that a rule may be asked in.
var ons = []api.On{api.OnAll, api.OnSteps, api.OnFirst, api.OnLast}

// noFields are numbers that are those of no field.
var noFields = []int{-1, -2, -4, 4, 5, 7, 8, 256, math.MinInt, math.MaxInt, math.MinInt32, math.MaxInt32}

const greatest = math.MaxUint64

// These return variables.
func m(i int) api.Var { return api.Var{Kind: api.VarMain, Index: i} }
func n(i int) api.Var { return api.Var{Kind: api.VarNext, Index: i} }
func f(i int) api.Var { return api.Var{Kind: api.VarFixed, Index: i} }
func p(i int) api.Var { return api.Var{Kind: api.VarPublic, Index: i} }

// tuple returns a list of variables, and tuples a list of tuples.
func tuple(vars ...api.Var) []api.Var      { return vars }
func tuples(list ...[]api.Var) [][]api.Var { return list }

// term returns a monomial, and sum a list of monomials.
func term(coef uint64, vars ...api.Var) api.Mono { return api.Mono{Coef: coef, Vars: vars} }
func sum(l ...api.Mono) []api.Mono               { return l }

// numbers returns a list of numbers, and columns a list of columns.
func numbers(l ...uint64) []uint64     { return l }
func columns(l ...[]uint64) [][]uint64 { return l }

// trace returns a trace without public inputs.
func trace(main ...[]uint64) api.Trace { return api.Trace{Main: main} }

// counter returns the counter of chapter 13 with 2^rows rows, and counted a trace of it.
func counter(field, rows int) api.System {
	step := sum(term(1, n(0)), term(primes[field]-1, m(0)), term(primes[field]-1))
	return api.System{Field: field, Rows: rows, Main: 1, Rules: []api.Rule{{On: api.OnSteps, Sum: step}}}
}

func counted(field, rows int, first uint64) api.Trace {
	var l []uint64
	for i := range uint64(1 << rows) {
		l = append(l, (first+i)%primes[field])
	}
	return trace(l)
}

// ofDegree returns a counter with a rule more, of a degree.
func ofDegree(field, rows, degree int) api.System {
	s := counter(field, rows)
	s.Rules = append(s.Rules, api.Rule{On: api.OnAll, Sum: sum(term(0, slices.Repeat(tuple(m(0)), degree)...))})
	return s
}

// rich returns a system with two of everything, whose degree is 3.
func rich(field int) api.System {
	return api.System{Field: field, Rows: 2, Main: 3, Public: 2,
		Fixed: columns(numbers(1, 2, 3, 4), numbers(0, 0, 7, primes[field]-1)),
		Rules: []api.Rule{
			{On: api.OnSteps, Sum: sum(term(1, n(0)), term(primes[field]-1, m(0), f(1)), term(2))},
			{On: api.OnLast, Sum: sum(term(1, m(2)), term(3, p(0), p(1)))},
		},
		Perms: []api.Perm{
			{Left: tuples(tuple(m(0), f(0)), tuple(m(1), f(1))), Right: tuples(tuple(m(2), m(2)), tuple(f(1), m(0)))},
			{Left: tuples(tuple(m(1), m(0), f(0))), Right: tuples(tuple(m(0), m(1), f(1)))},
		},
		Lookups: []api.Lookup{
			{Tuple: tuple(m(1), f(0)), Table: tuple(f(1), f(0)), Count: m(2)},
			{Tuple: tuple(m(2)), Table: tuple(f(0)), Count: m(0)},
		},
	}
}

// invalid returns systems that are not valid, each for another reason.
func invalid(field int) []api.System {
	var out []api.System
	change := func(do func(s *api.System)) {
		s := rich(field)
		do(&s)
		out = append(out, s)
	}
	change(func(s *api.System) { s.Field = 4 })
	change(func(s *api.System) { s.Field = -1 })
	change(func(s *api.System) { s.Rows = 0 })
	change(func(s *api.System) { s.Rows = 3 })
	change(func(s *api.System) { s.Rows = math.MinInt })
	change(func(s *api.System) { s.Rows, s.Fixed, s.Lookups, s.Perms, s.Rules = 14, nil, nil, nil, nil })
	change(func(s *api.System) { s.Main = 2 })
	change(func(s *api.System) { s.Public = 17 })
	change(func(s *api.System) { s.Fixed[0][3] = primes[field] })
	change(func(s *api.System) { s.Fixed[1] = s.Fixed[1][:3] })
	change(func(s *api.System) { s.Rules[1].On = api.OnNone })
	change(func(s *api.System) { s.Rules[0].Sum[0].Coef = greatest })
	change(func(s *api.System) { s.Rules[0].Sum[0].Vars = slices.Repeat(tuple(m(0)), 9) })
	change(func(s *api.System) { s.Perms = slices.Repeat(s.Perms, 3) })
	change(func(s *api.System) { s.Perms[1].Right[0][1] = n(0) })
	change(func(s *api.System) { s.Lookups[1].Count = f(0) })
	return append(out, api.System{}, api.System{Field: field, Rows: 1}, api.System{Field: field, Main: 1})
}

// randoms returns values below some bound, and lists a number of such lists.
func randoms(r *rand.Rand, n int, bound uint64) []uint64 {
	l := make([]uint64, n)
	for i := range l {
		l[i] = r.Uint64() % bound
	}
	return l
}

func lists(r *rand.Rand, number, n int, bound uint64) [][]uint64 {
	var out [][]uint64
	for range number {
		out = append(out, randoms(r, n, bound))
	}
	return out
}

// holding returns a system that holds of a trace: the columns 2 and 3 have the pairs of 0 and 1 in another order, the columns 4 and 5 together the values of 0 and 1, the column 6 values of the fixed column 0, counted in the column 7, and the further fixed columns are what the rules ask for. The last rule has a degree.
func holding(r *rand.Rand, field, rows, degree int) (api.System, api.Trace) {
	prime, size := primes[field], 1<<rows
	s := api.System{Field: field, Rows: rows, Main: 8, Public: 1, Fixed: lists(r, 1, size, []uint64{2, prime}[r.Intn(2)])}
	x := api.Trace{Public: randoms(r, 1, prime), Main: lists(r, 6, size, []uint64{2, 5, prime}[r.Intn(3)])}
	both := slices.Concat(x.Main[0], x.Main[1])
	r.Shuffle(len(both), func(i, j int) { both[i], both[j] = both[j], both[i] })
	x.Main[4], x.Main[5] = slices.Clone(both[:size]), slices.Clone(both[size:])
	for to, from := range r.Perm(size) {
		x.Main[2][to], x.Main[3][to] = x.Main[0][from], x.Main[1][from]
	}
	used, count := make([]uint64, size), make([]uint64, size)
	for i := range size {
		row := r.Intn(size)
		used[i] = s.Fixed[0][row]
		count[row]++
	}
	x.Main = append(x.Main, used, count)
	s.Perms = []api.Perm{
		{Left: tuples(tuple(m(0), m(1))), Right: tuples(tuple(m(2), m(3)))},
		{Left: tuples(tuple(m(0)), tuple(m(1))), Right: tuples(tuple(m(4)), tuple(m(5)))},
	}
	s.Lookups = []api.Lookup{
		{Tuple: tuple(m(6)), Table: tuple(f(0)), Count: m(7)},
		{Tuple: tuple(m(6), m(6)), Table: tuple(f(0), f(0)), Count: m(7)},
	}
	s.Rules = []api.Rule{
		{On: api.OnSteps, Sum: sum(term(7, p(0)), term(1, m(2)), term(2, n(7)))},
		{On: api.OnAll, Sum: sum(term(1, m(0), n(1)), term(prime-1, n(1), m(0)))},
		{On: api.OnFirst, Sum: sum(term(1, m(0)), term((prime-x.Main[0][0])%prime))},
		{On: api.OnLast, Sum: sum(term(5, m(5), p(0), p(0)))},
		{On: api.OnAll, Sum: sum(term(3, slices.Repeat(tuple(n(3), m(4)), degree)[:degree]...))},
	}
	for _, i := range []int{0, 3, 4} {
		aim(r, &s, x, i)
	}
	return s, x
}

// aim adds a fixed column to the rule i, which makes it hold where it is asked, and has any values elsewhere.
func aim(r *rand.Rand, s *api.System, x api.Trace, i int) {
	column := randoms(r, 1<<s.Rows, primes[s.Field])
	for _, row := range asked(s.Rows, s.Rules[i].On) {
		got := sumOf(s.Field, s.Rules[i].Sum, inRow(api.Wide{Main: x.Main, Fixed: s.Fixed, Public: x.Public}, row))
		column[row] = (primes[s.Field] - got) % primes[s.Field]
	}
	s.Rules[i].Sum = append(s.Rules[i].Sum, term(1, f(len(s.Fixed))))
	s.Fixed = append(s.Fixed, column)
}

// thinned returns a system without some of its rules, permutations and lookups, and perhaps without the fixed columns at the end that it does not need.
func thinned(r *rand.Rand, s api.System) api.System {
	s.Rules = some(r, s.Rules)
	s.Perms = some(r, s.Perms)
	s.Lookups = some(r, s.Lookups)
	if r.Intn(3) == 0 {
		return s
	}
	needed := 0
	if len(s.Lookups) > 0 {
		needed = 1
	}
	for _, rule := range s.Rules {
		for _, x := range rule.Sum {
			for _, v := range x.Vars {
				if v.Kind == api.VarFixed {
					needed = max(needed, v.Index+1)
				}
			}
		}
	}
	s.Fixed = s.Fixed[:needed]
	return s
}

// some returns all elements of a list, or none, or some of them.
func some[T any](r *rand.Rand, l []T) []T {
	parts := r.Intn(4)
	return slices.DeleteFunc(slices.Clone(l), func(T) bool { return r.Intn(3) < parts })
}

// someProvable returns a system that holds of a trace, and parameters that are possible for it, with at most 2^height wide rows.
func someProvable(r *rand.Rand, field, height int) (api.System, api.Params, api.Trace) {
	for {
		rows := 1 + r.Intn(height-1)
		s, x := holding(r, field, min(rows, twos[field]), 1+r.Intn(8))
		s = thinned(r, s)
		for _, blow := range r.Perm(6) {
			if s.Rows+blow <= height && isPossible(s, blow) {
				return s, api.Params{Blow: blow, Cap: r.Intn(9), Queries: 1 + r.Intn(4), Grind: r.Intn(3)}, x
			}
		}
	}
}

// isPossible reports whether a blow-up is possible for a valid system, without the program.
func isPossible(s api.System, b int) bool {
	if b < 1 || b > 5 || s.Rows+b > twos[s.Field] {
		return false
	}
	return primes[s.Field]-1 > 1<<(s.Rows+b) && 1<<b >= 2*degreeOf(s)
}

// degreeOf returns the degree of a valid system, without the program.
func degreeOf(s api.System) int {
	degree := 1
	for _, x := range s.Rules {
		for _, y := range x.Sum {
			isPublic := func(v api.Var) bool { return v.Kind == api.VarPublic }
			degree = max(degree, len(slices.DeleteFunc(slices.Clone(y.Vars), isPublic)))
		}
	}
	for _, x := range s.Perms {
		degree = max(degree, 1+len(x.Left))
	}
	if len(s.Lookups) > 0 {
		degree = max(degree, 3)
	}
	return degree
}

// copyOf returns a value that shares no memory with x. Empty lists become nil, so that copies of equal things are deeply equal.
func copyOf[T any](x T) T {
	var deep func(v reflect.Value) reflect.Value
	deep = func(v reflect.Value) reflect.Value {
		out := reflect.New(v.Type()).Elem()
		switch v.Kind() {
		case reflect.Slice:
			for i := range v.Len() {
				out = reflect.Append(out, deep(v.Index(i)))
			}
		case reflect.Struct:
			for i := range v.NumField() {
				out.Field(i).Set(deep(v.Field(i)))
			}
		case reflect.Interface:
			out.Set(deep(v.Elem()))
		default:
			out.Set(v)
		}
		return out
	}
	return deep(reflect.ValueOf(&x).Elem()).Interface().(T)
}

// same reports whether two things are equal; nil and empty lists are the same.
func same[T any](a, b T) bool { return reflect.DeepEqual(copyOf(a), copyOf(b)) }

// want reports a result that is not the one that is wanted.
func want[T any](t *testing.T, what string, got, wanted T) {
	t.Helper()
	if !same(got, wanted) {
		t.Errorf("%s is %v, not %v", what, got, wanted)
	}
}

// wantProof reports a proof that is not the one that is wanted.
func wantProof(t *testing.T, s api.System, p api.Params, x api.Trace, wanted api.Proof) {
	t.Helper()
	if got, e := Prove(s, p, x); !same(got, wanted) || e != api.OK {
		t.Errorf("the proof with %v of %v for %v is %v, %d, not %v", p, x, s, got, e, wanted)
	}
}

// wantNoProof reports a proof, or another error.
func wantNoProof(t *testing.T, what string, s api.System, p api.Params, x api.Trace, wanted api.Errno) {
	t.Helper()
	if got, e := Prove(s, p, x); !same(got, api.Proof{}) || e != wanted {
		t.Errorf("the proof of %s is %v, %d, not the error %d", what, got, e, wanted)
	}
}

// wantNoKey reports a system or parameters that have a key.
func wantNoKey(t *testing.T, what string, s api.System, p api.Params) {
	t.Helper()
	if got, e := NewKey(s, p); !same(got, api.Key{}) || e != api.ErrArg || Possible(s, p) {
		t.Errorf("the key of %s is %v, %d", what, got, e)
	}
}

// wantInvalid reports a key that is valid.
func wantInvalid(t *testing.T, what string, k api.Key) {
	t.Helper()
	shape, first := Shape(k)
	begin, second := Begin(k, make([]uint64, max(0, min(20, k.Shape.Public))))
	low, third := Low(k)
	if ValidKey(k) || shape != (api.Shape{}) || begin != (api.Channel{}) || low != (api.LowKey{}) || first != api.ErrArg || second != api.ErrArg || third != api.ErrArg {
		t.Errorf("%s: ValidKey is %v, Shape %v, %d, Begin %v, %d, Low %v, %d", what, ValidKey(k), shape, first, begin, second, low, third)
	}
}

// memory adds to seen the places of the numbers in all lists of x, also of those behind their ends, and returns whether one was there already.
func memory(seen map[uintptr]bool, x any) bool {
	twice := false
	var visit func(v reflect.Value)
	visit = func(v reflect.Value) {
		switch v.Kind() {
		case reflect.Slice:
			whole := v.Slice(0, v.Cap())
			for i := range whole.Len() {
				at := whole.Index(i).Addr().Pointer()
				twice = twice || seen[at]
				seen[at] = true
				visit(whole.Index(i))
			}
		case reflect.Struct:
			for i := range v.NumField() {
				visit(v.Field(i))
			}
		}
	}
	visit(reflect.ValueOf(x))
	return twice
}

// wantApart calls f, and reports if that changes an argument, or if arguments and results share memory. The arguments share none.
func wantApart(t *testing.T, what string, args []any, f func() []any) {
	t.Helper()
	before := make([]any, len(args))
	seen := map[uintptr]bool{}
	for i, x := range args {
		before[i] = copyOf(x)
		want(t, what+": whether two arguments share memory", memory(seen, x), false)
	}
	for _, x := range f() {
		want(t, what+": whether a result shares memory", memory(seen, x), false)
	}
	for i, x := range args {
		want(t, what+": whether an argument stays", reflect.DeepEqual(copyOf(x), before[i]), true)
	}
}
