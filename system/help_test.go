package system

import (
	"fmt"
	"math"
	"math/big"
	"math/rand"
	"slices"
	"testing"

	"attestor/api"
)

// primes contains the P of each field, and twos how often 2 divides P - 1, so that the tests compute without package field.
var (
	primes = []uint64{97, 257, 12289, 998244353}
	twos   = []int{5, 8, 12, 23}
)

// noFields are numbers that are those of no field.
var noFields = []int{-1, -2, -4, 4, 5, 7, 8, 256, math.MinInt, math.MaxInt, math.MinInt32, math.MaxInt32}

const greatest = math.MaxUint64

// These return variables.
func m(i int) api.Var { return api.Var{Kind: api.VarMain, Index: i} }
func n(i int) api.Var { return api.Var{Kind: api.VarNext, Index: i} }
func f(i int) api.Var { return api.Var{Kind: api.VarFixed, Index: i} }
func p(i int) api.Var { return api.Var{Kind: api.VarPublic, Index: i} }

// tuple returns a list of variables, and tuples a list of tuples.
func tuple(vars ...api.Var) []api.Var      { return vars }
func tuples(list ...[]api.Var) [][]api.Var { return list }

// term returns a monomial, and sum a list of monomials.
func term(coef uint64, vars ...api.Var) api.Mono { return api.Mono{Coef: coef, Vars: vars} }
func sum(l ...api.Mono) []api.Mono               { return l }

// columns returns a list of columns.
func columns(l ...[]uint64) [][]uint64 { return l }

// trace returns a trace without public inputs.
func trace(main ...[]uint64) api.Trace { return api.Trace{Main: main} }

// counter returns the first system of the chapter's examples.
func counter() api.System {
	step := sum(term(1, n(0)), term(96, m(0)), term(96))
	return api.System{Rows: 1, Main: 1, Rules: []api.Rule{{On: api.OnSteps, Sum: step}}}
}

// lists returns a number of lists, each with n values below some bound.
func lists(r *rand.Rand, number, n int, bound uint64) [][]uint64 {
	var out [][]uint64
	for range number {
		l := make([]uint64, n)
		for i := range l {
			l[i] = r.Uint64() % bound
		}
		out = append(out, l)
	}
	return out
}

// bound returns a bound of values: often a small one, so that rules hold and values occur several times by chance.
func bound(r *rand.Rand, field int) uint64 {
	return []uint64{1, 2, 2, 3, primes[field]}[r.Intn(5)]
}

// pick returns one of the variables that a system has of the kinds.
func pick(r *rand.Rand, s api.System, kinds ...api.VarKind) api.Var {
	numbers := map[api.VarKind]int{api.VarMain: s.Main, api.VarNext: s.Main, api.VarFixed: len(s.Fixed), api.VarPublic: s.Public}
	for {
		kind := kinds[r.Intn(len(kinds))]
		if numbers[kind] > 0 {
			return api.Var{Kind: kind, Index: r.Intn(numbers[kind])}
		}
	}
}

// someRule returns a valid rule.
func someRule(r *rand.Rand, s api.System) api.Rule {
	out := api.Rule{On: api.On(1 + r.Intn(4))}
	for range r.Intn(4) {
		x := term([]uint64{0, 1, 1, 2, primes[s.Field] - 1, primes[s.Field] - 1, r.Uint64() % primes[s.Field]}[r.Intn(7)])
		if out.On == api.OnFirst || out.On == api.OnLast {
			for range r.Intn(3) {
				x.Vars = append(x.Vars, pick(r, api.System{Public: max(1, s.Public)}, api.VarPublic))
			}
			if s.Public == 0 {
				x.Vars = nil
			}
			if r.Intn(3) > 0 {
				x.Vars = append(x.Vars, pick(r, s, api.VarMain, api.VarFixed))
			}
		} else {
			for range r.Intn(4) {
				x.Vars = append(x.Vars, pick(r, s, api.VarMain, api.VarNext, api.VarFixed, api.VarPublic))
			}
		}
		out.Sum = append(out.Sum, x)
	}
	return out
}

// somePerm returns a valid permutation.
func somePerm(r *rand.Rand, s api.System) api.Perm {
	var out api.Perm
	length := 1 + r.Intn(2)
	side := func() []api.Var {
		var l []api.Var
		for range length {
			l = append(l, pick(r, s, api.VarMain, api.VarFixed))
		}
		return l
	}
	for range 1 + r.Intn(3) {
		out.Left, out.Right = append(out.Left, side()), append(out.Right, side())
	}
	if r.Intn(3) == 0 { // one that holds
		out.Right = slices.Clone(out.Left)
		slices.Reverse(out.Right)
	}
	return out
}

// someLookup returns a valid lookup in a system that has fixed columns.
func someLookup(r *rand.Rand, s api.System) api.Lookup {
	out := api.Lookup{Count: pick(r, s, api.VarMain)}
	for range 1 + r.Intn(2) {
		out.Tuple = append(out.Tuple, pick(r, s, api.VarMain, api.VarFixed))
		out.Table = append(out.Table, pick(r, s, api.VarFixed))
	}
	return out
}

// someSystem returns a valid system.
func someSystem(r *rand.Rand, field int) api.System {
	s := api.System{Field: field, Rows: 1 + r.Intn(4), Main: 1 + r.Intn(4), Public: r.Intn(3)}
	s.Fixed = lists(r, r.Intn(4), 1<<s.Rows, bound(r, field))
	for range r.Intn(5) {
		s.Rules = append(s.Rules, someRule(r, s))
	}
	for range r.Intn(3) {
		s.Perms = append(s.Perms, somePerm(r, s))
	}
	for range r.Intn(3) {
		if len(s.Fixed) > 0 {
			s.Lookups = append(s.Lookups, someLookup(r, s))
		}
	}
	return s
}

// someTrace returns a trace that fits a system. Often its last lookup is counted, so that it holds if the table has what is used.
func someTrace(r *rand.Rand, s api.System) api.Trace {
	b := bound(r, s.Field)
	t := api.Trace{Public: lists(r, 1, s.Public, b)[0], Main: lists(r, s.Main, 1<<s.Rows, b)}
	if len(s.Lookups) == 0 || r.Intn(2) == 0 {
		return t
	}
	var used, before [][]uint64
	last := s.Lookups[len(s.Lookups)-1]
	for row := range 1 << s.Rows {
		used = append(used, tupleIn(s, t, last.Tuple, row))
	}
	for row := range 1 << s.Rows {
		value := tupleIn(s, t, last.Table, row)
		t.Main[last.Count.Index][row] = 0
		if times(before, value) == 0 {
			t.Main[last.Count.Index][row] = uint64(times(used, value))
		}
		before = append(before, value)
	}
	return t
}

// copiedTuples returns tuples that share no memory with others.
func copiedTuples(l [][]api.Var) [][]api.Var {
	out := slices.Clone(l)
	for i := range out {
		out[i] = slices.Clone(out[i])
	}
	return out
}

// copiedColumns returns columns that share no memory with others.
func copiedColumns(l [][]uint64) [][]uint64 {
	out := slices.Clone(l)
	for i := range out {
		out[i] = slices.Clone(out[i])
	}
	return out
}

// copied returns a system that shares no memory with another one.
func copied(s api.System) api.System {
	s.Fixed, s.Rules, s.Perms, s.Lookups = copiedColumns(s.Fixed), slices.Clone(s.Rules), slices.Clone(s.Perms), slices.Clone(s.Lookups)
	for i := range s.Rules {
		s.Rules[i].Sum = slices.Clone(s.Rules[i].Sum)
		for j, x := range s.Rules[i].Sum {
			s.Rules[i].Sum[j].Vars = slices.Clone(x.Vars)
		}
	}
	for i, x := range s.Perms {
		s.Perms[i] = api.Perm{Left: copiedTuples(x.Left), Right: copiedTuples(x.Right)}
	}
	for i, x := range s.Lookups {
		s.Lookups[i].Tuple, s.Lookups[i].Table = slices.Clone(x.Tuple), slices.Clone(x.Table)
	}
	return s
}

// copiedTrace returns a trace that shares no memory with another one.
func copiedTrace(t api.Trace) api.Trace {
	return api.Trace{Public: slices.Clone(t.Public), Main: copiedColumns(t.Main)}
}

// show returns a text that only equal things of the same type have; nil and empty lists are equal.
func show(x any) string { return fmt.Sprint(x) }

// modulo returns x modulo P.
func modulo(field int, x *big.Int) uint64 {
	return new(big.Int).Mod(x, new(big.Int).SetUint64(primes[field])).Uint64()
}

// sumOf returns the sum of a list modulo P, and productOf the product, without the program.
func sumOf(field int, l ...uint64) uint64 {
	out := new(big.Int)
	for _, x := range l {
		out.Add(out, new(big.Int).SetUint64(x))
	}
	return modulo(field, out)
}

func productOf(field int, l ...uint64) uint64 {
	out := big.NewInt(1)
	for _, x := range l {
		out.Mul(out, new(big.Int).SetUint64(x))
	}
	return modulo(field, out)
}

// valueIn returns the value of a variable in a row, without the program.
func valueIn(s api.System, t api.Trace, v api.Var, row int) uint64 {
	switch v.Kind {
	case api.VarMain:
		return t.Main[v.Index][row]
	case api.VarNext:
		if row == 1<<s.Rows-1 {
			return t.Main[v.Index][0]
		}
		return t.Main[v.Index][row+1]
	case api.VarFixed:
		return s.Fixed[v.Index][row]
	case api.VarPublic:
		return t.Public[v.Index]
	}
	panic("no such kind")
}

// tupleIn returns the value of a tuple in a row, without the program.
func tupleIn(s api.System, t api.Trace, vars []api.Var, row int) []uint64 {
	var out []uint64
	for _, v := range vars {
		out = append(out, valueIn(s, t, v, row))
	}
	return out
}

// times returns how often a value is in a list.
func times(list [][]uint64, value []uint64) int {
	count := 0
	for _, x := range list {
		if slices.Equal(x, value) {
			count++
		}
	}
	return count
}

// permOf reports whether a permutation holds, without the program.
func permOf(s api.System, t api.Trace, x api.Perm) bool {
	var left, right [][]uint64
	for row := range 1 << s.Rows {
		for i := range x.Left {
			left, right = append(left, tupleIn(s, t, x.Left[i], row)), append(right, tupleIn(s, t, x.Right[i], row))
		}
	}
	for _, value := range slices.Concat(left, right) {
		if times(left, value) != times(right, value) {
			return false
		}
	}
	return true
}

// lookupOf reports whether a lookup holds, without the program.
func lookupOf(s api.System, t api.Trace, x api.Lookup) bool {
	var used, table [][]uint64
	for row := range 1 << s.Rows {
		used, table = append(used, tupleIn(s, t, x.Tuple, row)), append(table, tupleIn(s, t, x.Table, row))
	}
	for _, value := range slices.Concat(used, table) {
		var counts []uint64
		for row := range table {
			if slices.Equal(table[row], value) {
				counts = append(counts, valueIn(s, t, x.Count, row))
			}
		}
		if sumOf(s.Field, uint64(times(used, value))) != sumOf(s.Field, counts...) {
			return false
		}
		if times(used, value) > 0 && times(table, value) == 0 {
			return false
		}
	}
	return true
}

// rowsOf returns the rows in which a rule is asked.
func rowsOf(s api.System, on api.On) []int {
	var all []int
	for row := range 1 << s.Rows {
		all = append(all, row)
	}
	last := len(all) - 1
	return map[api.On][]int{api.OnAll: all, api.OnSteps: all[:last], api.OnFirst: all[:1], api.OnLast: all[last:]}[on]
}

// faultsOf returns the faults, without the program.
func faultsOf(s api.System, t api.Trace) []api.Fault {
	var out []api.Fault
	for i, x := range s.Rules {
		for _, row := range rowsOf(s, x.On) {
			var values []uint64
			for _, y := range x.Sum {
				values = append(values, productOf(s.Field, append(tupleIn(s, t, y.Vars, row), y.Coef)...))
			}
			if sumOf(s.Field, values...) != 0 {
				out = append(out, api.Fault{Rule: i, Row: row})
			}
		}
	}
	for i, x := range s.Perms {
		if !permOf(s, t, x) {
			out = append(out, api.Fault{Rule: len(s.Rules) + i, Row: -1})
		}
	}
	for i, x := range s.Lookups {
		if !lookupOf(s, t, x) {
			out = append(out, api.Fault{Rule: len(s.Rules) + len(s.Perms) + i, Row: -1})
		}
	}
	return out
}

// degreeOf returns the degree of a valid system, without the program.
func degreeOf(s api.System) int {
	all := []int{1}
	for _, x := range s.Rules {
		for _, y := range x.Sum {
			isPublic := func(v api.Var) bool { return v.Kind == api.VarPublic }
			all = append(all, len(slices.DeleteFunc(slices.Clone(y.Vars), isPublic)))
		}
	}
	for _, x := range s.Perms {
		all = append(all, len(x.Left)+1)
	}
	if len(s.Lookups) != 0 {
		all = append(all, 3)
	}
	return slices.Max(all)
}

// want reports a result that is not the one that is wanted.
func want[T comparable](t *testing.T, what string, got, wanted T) {
	t.Helper()
	if got != wanted {
		t.Errorf("%s is %v, not %v", what, got, wanted)
	}
}

// wantFaults reports faults that are not the ones that are wanted, and what Holds says against them.
func wantFaults(t *testing.T, s api.System, x api.Trace, wanted ...api.Fault) {
	t.Helper()
	got, e := Faults(s, x)
	if !slices.Equal(got, wanted) || e != api.OK {
		t.Errorf("Faults of %v in %v is %v, %d, not %v", x, s, got, e, wanted)
	}
	ok, e := Holds(s, x)
	if ok != (len(wanted) == 0) || e != api.OK {
		t.Errorf("Holds of %v in %v is %v, %d, not %v", x, s, ok, e, len(wanted) == 0)
	}
}

// wantEnv reports an environment that is not that of a row.
func wantEnv(t *testing.T, s api.System, x api.Trace, row int) {
	t.Helper()
	var wanted api.Env
	for i := range x.Main {
		wanted.Main = append(wanted.Main, valueIn(s, x, m(i), row))
		wanted.Next = append(wanted.Next, valueIn(s, x, n(i), row))
	}
	for i := range s.Fixed {
		wanted.Fixed = append(wanted.Fixed, valueIn(s, x, f(i), row))
	}
	wanted.Public = x.Public
	got, e := Env(s, x, row)
	if show(got) != show(wanted) || e != api.OK {
		t.Errorf("Env of the row %d of %v in %v is %v, %d, not %v", row, x, s, got, e, wanted)
	}
}

// wantMisfit reports a trace that fits, or for which there are answers.
func wantMisfit(t *testing.T, what string, s api.System, x api.Trace) {
	t.Helper()
	want(t, "Fits of "+what, Fits(s, x), false)
	for _, row := range []int{0, 1, -1, 1 << 20, math.MinInt, math.MaxInt} {
		env, e := Env(s, x, row)
		if show(env) != show(api.Env{}) || e != api.ErrArg {
			t.Errorf("Env of %s is %v, %d", what, env, e)
		}
	}
	l, e := Faults(s, x)
	if len(l) != 0 || e != api.ErrArg {
		t.Errorf("Faults of %s is %v, %d", what, l, e)
	}
	ok, e := Holds(s, x)
	if ok || e != api.ErrArg {
		t.Errorf("Holds of %s is %v, %d", what, ok, e)
	}
}

// wantValid reports a system that is not valid, or has another degree.
func wantValid(t *testing.T, what string, s api.System) {
	t.Helper()
	want(t, "Valid of "+what, Valid(s), true)
	want(t, "Degree of "+what, Degree(s), degreeOf(s))
	if len(Words(s)) < 8 {
		t.Errorf("Words of %s is %v", what, Words(s))
	}
	want(t, "Fits of zeros and "+what, Fits(s, zeros(s)), true)
}

// zeros returns a trace of zeros that fits a system, or would fit it if it were valid.
func zeros(s api.System) api.Trace {
	list := func(n int) []uint64 { return make([]uint64, min(99, max(0, n))) }
	x := api.Trace{Public: list(s.Public)}
	for range list(s.Main) {
		x.Main = append(x.Main, make([]uint64, 1<<min(14, max(0, s.Rows))))
	}
	return x
}

// wantInvalid reports a system that is valid, or about which there are answers.
func wantInvalid(t *testing.T, what string, s api.System) {
	t.Helper()
	want(t, "Valid of "+what, Valid(s), false)
	want(t, "Degree of "+what, Degree(s), 0)
	want(t, "the length of Words of "+what, len(Words(s)), 0)
	wantMisfit(t, what, s, zeros(s))
	wantMisfit(t, what, s, api.Trace{})
}
