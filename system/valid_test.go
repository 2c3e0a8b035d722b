package system

import (
	"fmt"
	"math"
	"math/rand"
	"slices"
	"testing"

	"attestor/api"
)

// P13.1

// rich returns a system with two rows that has as much of everything else as possible, with the last index of each kind and the greatest element.
func rich(field int) api.System {
	last := primes[field] - 1
	s := api.System{Field: field, Rows: 1, Main: 64, Public: 16, Fixed: slices.Repeat(columns([]uint64{last, 0}), 64)}
	for i := range 64 {
		long := term(last, m(63), n(63), f(63), p(15), m(0), n(0), f(0), p(0))
		if i%4 > 1 {
			long = term(last, append(slices.Repeat(tuple(p(15)), 7), tuple(m(63), f(63))[i/4%2])...)
		}
		s.Rules = append(s.Rules, api.Rule{On: api.On(1 + i%4), Sum: slices.Repeat(sum(long), 64)})
	}
	long := tuple(m(63), f(63), m(0), f(0))
	s.Perms = slices.Repeat([]api.Perm{{Left: tuples(long, long, long, long), Right: tuples(long, long, long, long)}}, 4)
	s.Lookups = slices.Repeat([]api.Lookup{{Tuple: long, Table: tuple(f(63), f(0), f(1), f(2)), Count: m(63)}}, 8)
	return copied(s)
}

// small returns a system with a little of everything.
func small(field int) api.System {
	return api.System{
		Field: field, Rows: 2, Main: 3, Public: 2, Fixed: columns([]uint64{1, 2, 3, 4}, []uint64{0, 0, 0, primes[field] - 1}),
		Rules: []api.Rule{
			{On: api.OnAll, Sum: sum(term(1, m(0), n(1), f(1), p(1)), term(2))},
			{On: api.OnSteps, Sum: sum(term(1, n(2)), term(2, m(2)))},
			{On: api.OnFirst, Sum: sum(term(1, m(0)), term(2, p(0), p(1)))},
			{On: api.OnLast, Sum: sum(term(1, f(0), p(0)), term(2, m(1)))},
		},
		Perms:   []api.Perm{{Left: tuples(tuple(m(0), f(0)), tuple(m(1), f(1))), Right: tuples(tuple(f(0), m(2)), tuple(m(0), m(0)))}},
		Lookups: []api.Lookup{{Tuple: tuple(m(0), f(1)), Table: tuple(f(0), f(1)), Count: m(2)}},
	}
}

func TestTheGreatestAndTheLeastSystemsAreValid(t *testing.T) {
	for field := range primes {
		wantValid(t, "a rich system", rich(field))
		wantValid(t, "a small system", small(field))
		wantValid(t, "the least system", api.System{Field: field, Rows: 1, Main: 1})
		least := api.System{Field: field, Rows: 1, Main: 1, Fixed: columns([]uint64{0, 0})}
		least.Rules = []api.Rule{{On: api.OnAll}, {On: api.OnLast, Sum: sum(term(0))}, {On: api.OnFirst, Sum: sum(term(0, f(0)))}}
		least.Perms = []api.Perm{{Left: tuples(tuple(m(0))), Right: tuples(tuple(f(0)))}}
		least.Lookups = []api.Lookup{{Tuple: tuple(f(0)), Table: tuple(f(0)), Count: m(0)}}
		wantValid(t, "a system with the least of everything", least)
	}
	wantValid(t, "the counter", counter())
}

func TestFieldsAndSizes(t *testing.T) {
	for _, field := range noFields {
		s := small(0)
		s.Field = field
		wantInvalid(t, "a system without a field", s)
		wantInvalid(t, "a system without a field", api.System{Field: field, Rows: 1, Main: 1})
	}
	for field := range primes {
		for _, rows := range []int{math.MinInt, -64, -2, -1, 0, 1, 2, 4, 5, 6, 7, 8, 9, 11, 12, 13, 14, 22, 23, 24, 62, 63, 64, 65, 1 << 32, math.MaxInt} {
			s := api.System{Field: field, Rows: rows, Main: 1}
			if rows >= 1 && rows <= 13 && rows <= twos[field] {
				s.Fixed = columns(make([]uint64, 1<<rows))
				wantValid(t, fmt.Sprintf("a system with %d rows", rows), s)
			} else {
				wantInvalid(t, fmt.Sprintf("a system with %d rows", rows), s)
			}
		}
		for _, number := range []int{math.MinInt, -64, -1, 0, 1, 2, 15, 16, 17, 18, 63, 64, 65, 66, 128, 256, 1 << 32, 1<<32 + 1, math.MaxInt} {
			what := fmt.Sprintf("a system with the number %d", number)
			if s := (api.System{Field: field, Rows: 1, Main: number}); number >= 1 && number <= 64 {
				wantValid(t, what, s)
			} else {
				wantInvalid(t, what, s)
			}
			if s := (api.System{Field: field, Rows: 1, Main: 1, Public: number}); number >= 0 && number <= 16 {
				wantValid(t, what, s)
			} else {
				wantInvalid(t, what, s)
			}
		}
	}
}

// change is something that makes a system invalid.
type change struct {
	what string
	do   func(s *api.System)
}

// excess are the changes that add one of something to a rich system.
var excess = []change{
	{"the fixed columns", func(s *api.System) { s.Fixed = append(s.Fixed, s.Fixed[0]) }},
	{"the rules", func(s *api.System) { s.Rules = append(s.Rules, s.Rules[0]) }},
	{"the empty rules", func(s *api.System) { s.Rules = append(s.Rules, api.Rule{On: api.OnAll}) }},
	{"the monomials", func(s *api.System) { s.Rules[0].Sum = append(s.Rules[0].Sum, s.Rules[0].Sum[0]) }},
	{"the monomials of the last rule", func(s *api.System) { s.Rules[63].Sum = append(s.Rules[63].Sum, term(0)) }},
	{"the variables", func(s *api.System) { s.Rules[0].Sum[0].Vars = append(s.Rules[0].Sum[0].Vars, m(0)) }},
	{"the public ones", func(s *api.System) { s.Rules[63].Sum[63].Vars = append(s.Rules[63].Sum[63].Vars, p(0)) }},
	{"the degree at first", func(s *api.System) { s.Rules[2].Sum[63].Vars[0] = f(0) }},
	{"the degree at last", func(s *api.System) { s.Rules[63].Sum[0].Vars[6] = m(0) }},
	{"the permutations", func(s *api.System) { s.Perms = append(s.Perms, s.Perms[0]) }},
	{"the tuples", func(s *api.System) {
		s.Perms[0].Left, s.Perms[0].Right = append(s.Perms[0].Left, s.Perms[0].Left[0]), append(s.Perms[0].Right, s.Perms[0].Left[0])
	}},
	{"the tuples on the left", func(s *api.System) { s.Perms[3].Left = append(s.Perms[3].Left, s.Perms[3].Left[0]) }},
	{"the tuples on the right", func(s *api.System) { s.Perms[3].Right = append(s.Perms[3].Right, s.Perms[3].Left[0]) }},
	{"the length of all tuples", func(s *api.System) {
		for i := range 4 {
			s.Perms[3].Left[i], s.Perms[3].Right[i] = append(s.Perms[3].Left[i], m(0)), append(s.Perms[3].Right[i], m(0))
		}
	}},
	{"the length of a tuple on the left", func(s *api.System) { s.Perms[1].Left[3] = append(s.Perms[1].Left[3], m(0)) }},
	{"the length of a tuple on the right", func(s *api.System) { s.Perms[1].Right[3] = append(s.Perms[1].Right[3], m(0)) }},
	{"the lookups", func(s *api.System) { s.Lookups = append(s.Lookups, s.Lookups[0]) }},
	{"the length of a lookup", func(s *api.System) {
		s.Lookups[7].Tuple, s.Lookups[7].Table = append(s.Lookups[7].Tuple, f(0)), append(s.Lookups[7].Table, f(0))
	}},
	{"the length of a lookup's tuple", func(s *api.System) { s.Lookups[0].Tuple = append(s.Lookups[0].Tuple, f(0)) }},
	{"the length of a lookup's table", func(s *api.System) { s.Lookups[7].Table = append(s.Lookups[7].Table, f(0)) }},
}

// flaws are other changes, to a small system.
var flaws = []change{
	{"no tuples", func(s *api.System) { s.Perms[0] = api.Perm{} }},
	{"no tuples on the left", func(s *api.System) { s.Perms[0].Left = nil }},
	{"no tuples on the right", func(s *api.System) { s.Perms[0].Right = nil }},
	{"fewer tuples on the left", func(s *api.System) { s.Perms[0].Left = s.Perms[0].Left[:1] }},
	{"fewer tuples on the right", func(s *api.System) { s.Perms[0].Right = s.Perms[0].Right[:1] }},
	{"empty tuples", func(s *api.System) {
		s.Perms[0] = api.Perm{Left: [][]api.Var{{}, {}}, Right: [][]api.Var{{}, {}}}
	}},
	{"an empty tuple first", func(s *api.System) { s.Perms[0].Left[0] = nil }},
	{"an empty tuple", func(s *api.System) { s.Perms[0].Right[1] = nil }},
	{"a shorter tuple first", func(s *api.System) { s.Perms[0].Left[0] = s.Perms[0].Left[0][:1] }},
	{"a shorter tuple on the left", func(s *api.System) { s.Perms[0].Left[1] = s.Perms[0].Left[1][:1] }},
	{"a shorter tuple on the right", func(s *api.System) { s.Perms[0].Right[0] = s.Perms[0].Right[0][:1] }},
	{"shorter tuples on the left", func(s *api.System) { s.Perms[0].Left = tuples(tuple(m(0)), tuple(m(0))) }},
	{"shorter tuples on the right", func(s *api.System) { s.Perms[0].Right = tuples(tuple(m(0)), tuple(m(0))) }},
	{"a permutation of nothing after it", func(s *api.System) { s.Perms = append(s.Perms, api.Perm{}) }},
	{"a lookup of nothing", func(s *api.System) { s.Lookups[0].Tuple, s.Lookups[0].Table = nil, nil }},
	{"a lookup of nothing after it", func(s *api.System) { s.Lookups = append(s.Lookups, api.Lookup{Count: m(0)}) }},
	{"a lookup without a tuple", func(s *api.System) { s.Lookups[0].Tuple = nil }},
	{"a lookup without a table", func(s *api.System) { s.Lookups[0].Table = nil }},
	{"a lookup with a shorter tuple", func(s *api.System) { s.Lookups[0].Tuple = s.Lookups[0].Tuple[:1] }},
	{"a lookup with a shorter table", func(s *api.System) { s.Lookups[0].Table = s.Lookups[0].Table[:1] }},
	{"no fixed columns for its variables", func(s *api.System) { s.Fixed = nil }},
	{"no public inputs for its variables", func(s *api.System) { s.Public = 1 }},
	{"fewer columns than its variables", func(s *api.System) { s.Main = 2 }},
	{"more rows than the fixed columns", func(s *api.System) { s.Rows = 3 }},
	{"less rows than the fixed columns", func(s *api.System) { s.Rows = 1 }},
	{"an empty fixed column", func(s *api.System) { s.Fixed[0] = nil }},
	{"an empty fixed column after them", func(s *api.System) { s.Fixed = append(s.Fixed, nil) }},
	{"a shorter fixed column", func(s *api.System) { s.Fixed[1] = s.Fixed[1][:3] }},
	{"a longer fixed column", func(s *api.System) { s.Fixed[0] = append(s.Fixed[0], 0) }},
	{"a degree of 2 in the first row", func(s *api.System) { s.Rules[2].Sum[0].Vars = tuple(m(0), m(0)) }},
	{"a degree of 2 in the last row", func(s *api.System) { s.Rules[3].Sum[1].Vars = tuple(m(0), f(0)) }},
	{"a degree of 2 with the coefficient 0", func(s *api.System) { s.Rules[3].Sum[1] = term(0, f(0), p(0), f(0)) }},
	{"the next row of the first row", func(s *api.System) { s.Rules[2].Sum[0].Vars = tuple(n(0)) }},
	{"the next row of the last row", func(s *api.System) { s.Rules[3].Sum[1].Vars = tuple(p(0), n(0)) }},
}

func TestFlawedSystems(t *testing.T) {
	for field := range primes {
		for _, x := range excess {
			s := rich(field)
			x.do(&s)
			wantInvalid(t, "one too much of "+x.what, s)
		}
		for _, x := range flaws {
			s := small(field)
			x.do(&s)
			wantInvalid(t, "a system with "+x.what, s)
		}
	}
}

func TestOns(t *testing.T) {
	for on := range 256 {
		for i := range 4 {
			s := small(0)
			s.Rules[i] = api.Rule{On: api.On(on), Sum: sum(term(1, m(0)))}
			if on >= 1 && on <= 4 {
				wantValid(t, fmt.Sprintf("a rule on %d", on), s)
			} else {
				wantInvalid(t, fmt.Sprintf("a rule on %d", on), s)
			}
		}
	}
}

// TestNumbersMustBeElements: at any place.
func TestNumbersMustBeElements(t *testing.T) {
	for field, p := range primes {
		for _, x := range []uint64{0, 1, p - 1, p, p + 1, 2 * p, 1 << 32, 1<<32 + 1, 1 << 63, greatest / p * p, greatest} {
			check := func(what string, s api.System) {
				t.Helper()
				if x < p {
					wantValid(t, what, s)
				} else {
					wantInvalid(t, what, s)
				}
			}
			for i := range 4 {
				for j := range 2 {
					s := small(field)
					s.Fixed[j][i] = x
					check("a fixed column with a number", s)
					s = small(field)
					s.Rules[i].Sum[j].Coef = x
					check("a rule with a coefficient", s)
					want(t, "Fits of a column with a number", Fits(small(field), withMain(field, j, i, x)), x < p)
					want(t, "Fits of an input", Fits(small(field), withPublic(field, j, x)), x < p)
				}
			}
		}
	}
}

// withMain returns a trace that fits a small system, but for a number.
func withMain(field, column, row int, x uint64) api.Trace {
	out := zeros(small(field))
	out.Main[column][row] = x
	return out
}

// withPublic returns a trace that fits a small system, but for a public input.
func withPublic(field, i int, x uint64) api.Trace {
	out := zeros(small(field))
	out.Public[i] = x
	return out
}

// places are all places of variables in a small system, with the kinds that may stand there.
func places(s *api.System) (at []*api.Var, may [][]api.VarKind) {
	add := func(l []api.Var, kinds ...api.VarKind) {
		for i := range l {
			at, may = append(at, &l[i]), append(may, kinds)
		}
	}
	for i := range 2 {
		for _, x := range s.Rules[i].Sum {
			add(x.Vars, api.VarMain, api.VarNext, api.VarFixed, api.VarPublic)
		}
		for _, x := range s.Rules[i+2].Sum {
			add(x.Vars[:1], api.VarMain, api.VarFixed, api.VarPublic)
		}
		add(s.Perms[0].Left[i], api.VarMain, api.VarFixed)
		add(s.Perms[0].Right[i], api.VarMain, api.VarFixed)
	}
	add(s.Lookups[0].Tuple, api.VarMain, api.VarFixed)
	add(s.Lookups[0].Table, api.VarFixed)
	at, may = append(at, &s.Lookups[0].Count), append(may, []api.VarKind{api.VarMain})
	return at, may
}

// TestVariables: every kind and many indexes, at every place. In the small system all numbers of variables are different.
func TestVariables(t *testing.T) {
	first := small(0)
	first.Rules[2].Sum = sum(term(1, p(0)), term(2, m(0), p(1)))
	first.Rules[3].Sum = sum(term(1, m(1), p(0)), term(2, f(0)))
	first.Main, first.Fixed, first.Public = 3, slices.Repeat(first.Fixed, 2), 2
	numbers := map[api.VarKind]int{api.VarMain: 3, api.VarNext: 3, api.VarFixed: 4, api.VarPublic: 2}
	at, _ := places(&first)
	want(t, "the number of places", len(at), 23)
	for i := range at {
		for kind := range api.VarKind(255) {
			for _, index := range []int{math.MinInt, -1 << 32, -2, -1, 0, 1, 2, 3, 4, 5, 64, 1 << 32, 1<<32 + 1, math.MaxInt} {
				s := copied(first)
				at, may := places(&s)
				*at[i] = api.Var{Kind: kind, Index: index}
				fits := slices.Contains(may[i], kind) && index >= 0 && index < numbers[kind]
				want(t, fmt.Sprintf("Valid with the kind %d and the index %d at the place %d", kind, index, i), Valid(s), fits)
			}
		}
	}
}

func TestDegree(t *testing.T) {
	for field := range primes {
		with := func(change func(s *api.System)) int {
			s := api.System{Field: field, Rows: 1, Main: 2, Public: 2, Fixed: columns([]uint64{1, 0})}
			change(&s)
			want(t, "Degree", Degree(s), degreeOf(s))
			return Degree(s)
		}
		rule := func(l ...api.Mono) func(s *api.System) {
			return func(s *api.System) {
				s.Rules = append(s.Rules, api.Rule{On: api.OnAll}, api.Rule{On: api.OnSteps, Sum: l}, api.Rule{On: api.OnFirst})
			}
		}
		want(t, "Degree without anything", with(func(s *api.System) {}), 1)
		want(t, "Degree of an empty sum", with(rule()), 1)
		want(t, "Degree of public inputs", with(rule(term(1, p(0), p(1), p(1)))), 1)
		want(t, "Degree of zeros", with(rule(term(0, m(0), n(0), f(0)), term(0, m(0)))), 3)
		want(t, "Degree of all", with(rule(term(1), term(1, m(0), m(0), n(0), n(1), f(0), f(0), m(1), p(0)), term(1, p(0)))), 7)
		want(t, "Degree of eight", with(rule(term(1, slices.Repeat(tuple(n(0)), 8)...))), 8)
		for k := 1; k <= 4; k++ {
			x := api.Perm{Left: slices.Repeat(tuples(tuple(m(0), m(1), f(0))), k), Right: slices.Repeat(tuples(tuple(f(0), m(0), m(1))), k)}
			want(t, "Degree of a permutation", with(func(s *api.System) { s.Perms = []api.Perm{x} }), 1+k)
			least := api.Perm{Left: tuples(tuple(m(0))), Right: tuples(tuple(f(0)))}
			want(t, "Degree of permutations", with(func(s *api.System) { s.Perms = []api.Perm{least, x, least} }), 1+k)
			want(t, "Degree of a rule and a permutation", with(func(s *api.System) {
				s.Perms = []api.Perm{x}
				rule(term(1, m(0), m(0), m(1)))(s)
			}), max(3, 1+k))
		}
		look := api.Lookup{Tuple: tuple(m(0)), Table: tuple(f(0)), Count: m(1)}
		want(t, "Degree of a lookup", with(func(s *api.System) { s.Lookups = []api.Lookup{look} }), 3)
		want(t, "Degree of a rule and lookups", with(func(s *api.System) {
			s.Lookups = []api.Lookup{look, look, look, look}
			rule(term(1, m(0), m(0), m(1), m(1)))(s)
		}), 4)
	}
	r := rand.New(rand.NewSource(231))
	for range 2000 {
		wantValid(t, "any system", someSystem(r, r.Intn(4)))
	}
}

func TestFits(t *testing.T) {
	for field := range primes {
		s := small(field)
		last := primes[field] - 1
		fit := api.Trace{Public: []uint64{last, 0}, Main: columns([]uint64{last, last, last, last}, []uint64{0, 0, 0, 0}, []uint64{1, 2, 3, 4})}
		want(t, "Fits", Fits(s, fit), true)
		for what, change := range map[string]func(x *api.Trace){
			"nothing":                  func(x *api.Trace) { *x = api.Trace{} },
			"no public inputs":         func(x *api.Trace) { x.Public = nil },
			"too few public inputs":    func(x *api.Trace) { x.Public = x.Public[:1] },
			"too many public inputs":   func(x *api.Trace) { x.Public = append(x.Public, 0) },
			"no columns":               func(x *api.Trace) { x.Main = nil },
			"too few columns":          func(x *api.Trace) { x.Main = x.Main[:2] },
			"too many columns":         func(x *api.Trace) { x.Main = append(x.Main, x.Main[0]) },
			"an empty column":          func(x *api.Trace) { x.Main[2] = nil },
			"empty columns":            func(x *api.Trace) { x.Main = make([][]uint64, 3) },
			"a shorter column":         func(x *api.Trace) { x.Main[2] = x.Main[2][:3] },
			"a longer column":          func(x *api.Trace) { x.Main[0] = append(x.Main[0], 0) },
			"columns of half the rows": func(x *api.Trace) { x.Main = columns(x.Main[0][:2], x.Main[1][:2], x.Main[2][:2]) },
			"a number":                 func(x *api.Trace) { x.Main[0][0] = last + 1 },
			"another number":           func(x *api.Trace) { x.Main[2][3] = greatest },
			"an input":                 func(x *api.Trace) { x.Public[1] = last + 1 },
		} {
			x := copiedTrace(fit)
			change(&x)
			wantMisfit(t, "a trace with "+what, s, x)
		}
	}
	r := rand.New(rand.NewSource(232))
	for range 1000 {
		s := someSystem(r, r.Intn(4))
		want(t, "Fits of any trace", Fits(s, someTrace(r, s)), true)
	}
}
