package argument

import (
	"math/rand"
	"slices"
	"testing"

	"attestor/api"
)

// P14.1

// several returns a system with some permutations and some lookups.
func several(field, perms, lookups int) api.System {
	s := rich(field)
	s.Perms, s.Lookups = slices.Repeat(s.Perms[:1], perms), slices.Repeat(s.Lookups[:1], lookups)
	return s
}

func TestCount(t *testing.T) {
	for field := range primes {
		for perms := range 5 {
			for lookups := range 9 {
				want(t, "Count", Count(several(field, perms, lookups)), perms+lookups)
			}
		}
		want(t, "Count of too many permutations", Count(several(field, 5, 0)), 0)
		want(t, "Count of too many lookups", Count(several(field, 0, 9)), 0)
		for _, s := range invalid(field) {
			want(t, "Count of an invalid system", Count(s), 0)
		}
	}
}

func TestOns(t *testing.T) {
	for field := range primes {
		s := several(field, 0, 0)
		s.Rules = []api.Rule{{On: api.OnLast}, {On: api.OnAll}, {On: api.OnFirst}, {On: api.OnSteps}, {On: api.OnLast}}
		wanted := []api.On{api.OnLast, api.OnAll, api.OnFirst, api.OnSteps, api.OnLast}
		for perms := range 5 {
			for lookups := range 9 {
				x := several(field, perms, lookups)
				x.Rules = s.Rules
				all := append(slices.Clone(wanted), slices.Repeat([]api.On{api.OnAll, api.OnFirst}, perms+lookups)...)
				want(t, "Ons", show(Ons(x)), show(all))
				x.Rules = nil
				want(t, "Ons without rules", show(Ons(x)), show(all[5:]))
			}
		}
		for _, x := range invalid(field) {
			want(t, "Ons of an invalid system", len(Ons(x)), 0)
		}
	}
}

func TestWeight(t *testing.T) {
	for field, p := range primes {
		for _, x := range []struct {
			values       []uint64
			c, d, wanted uint64
		}{
			{nil, 10, 2, 10}, {nil, 0, 2, 0}, {nil, p, 3, 0}, {nil, p + 7, 3, 7},
			{numbers(5), 10, 2, 15}, {numbers(5), 10, 0, 15}, {numbers(5), p - 5, 9, 0}, {numbers(p + 5), 2*p + 1, 9, 6},
			{numbers(3, 4), 10, 2, 21}, {numbers(4, 3), 10, 2, 20}, {numbers(3, 4), 10, 0, 13}, {numbers(3, 4), 10, p, 13}, {numbers(3, 4), 10, p + 1, 17},
			{numbers(0, 0, 1), 0, p - 2, 4}, {numbers(0, 0, 0, 1), 0, p - 2, p - 8}, {numbers(1, 1, 1, 1), 0, 2, 15}, {numbers(1, 1, 1, 1, 1, 1), 1, 2, 64},
			{numbers(p-1, p-1), p - 1, p - 1, p - 1}, {numbers(p-1, p-1, p-1), 3, p - 1, 2},
		} {
			want(t, "Weight of "+show(x), Weight(field, x.values, x.c, x.d), x.wanted)
		}
	}
	r := rand.New(rand.NewSource(244))
	for range 5000 {
		field := r.Intn(4)
		number := func() uint64 {
			return list(r, 1, []uint64{2, primes[field], 2 * primes[field], greatest}[r.Intn(4)])[0]
		}
		var values []uint64
		for range r.Intn(8) {
			values = append(values, number())
		}
		c, d := number(), number()
		want(t, "Weight of "+show(values), Weight(field, values, c, d), weightOf(field, values, c, d))
	}
	most := slices.Repeat(numbers(greatest), 5)
	for field := range primes {
		want(t, "Weight of the greatest numbers", Weight(field, most, greatest, greatest), weightOf(field, most, greatest, greatest))
	}
}

func TestWeightWithoutAField(t *testing.T) {
	for _, field := range noFields {
		want(t, "Weight in no field", Weight(field, numbers(3, 4), 10, 2), 0)
		want(t, "Weight of nothing in no field", Weight(field, nil, 10, 2), 0)
		want(t, "Weight of the greatest numbers in no field", Weight(field, numbers(greatest), greatest, greatest), 0)
	}
}

// P14.2

func TestValues(t *testing.T) {
	r := rand.New(rand.NewSource(245))
	for range 5000 {
		s := someSystem(r, r.Intn(4))
		env := someEnv(r, s)
		wantValues(t, s, env, valuesOf(s, env)...)
	}
	for field := range primes {
		s := rich(field)
		for range 500 {
			env := someEnv(r, s)
			wantValues(t, s, env, valuesOf(s, env)...)
		}
	}
}

// TestValuesOfAPerm: with tuples of two variables, c = 100 and d = 10, so that the weights can be read.
func TestValuesOfAPerm(t *testing.T) {
	s := api.System{Field: 3, Rows: 1, Main: 2, Fixed: columns(numbers(0, 0), numbers(0, 0))}
	s.Perms = []api.Perm{{Left: tuples(tuple(m(0), f(0)), tuple(m(1), f(1))), Right: tuples(tuple(f(0), m(1)), tuple(m(0), m(0)))}}
	env := api.Env{Main: numbers(1, 2), Fixed: numbers(3, 4), Aux: numbers(1), AuxNext: numbers(1), Challenge: numbers(100, 10)}
	left, right := uint64(131*142), uint64(123*111)
	p := primes[3]
	wantValues(t, s, env, right+p-left, 0)
	env.Aux[0], env.AuxNext[0] = 0, 1
	wantValues(t, s, env, right, p-1)
	env.Aux[0], env.AuxNext[0] = 2, 0
	wantValues(t, s, env, p-2*left, 1)
	env.Aux[0], env.AuxNext[0] = right, left
	wantValues(t, s, env, 0, right-1)
	env.Aux[0], env.AuxNext[0] = right+3*p, left+5*p
	wantValues(t, s, env, 0, right-1)
	env.Next, env.Public = numbers(7, 8), numbers(9) // what no tuple has
	wantValues(t, s, env, 0, right-1)
}

// TestValuesOfALookup: likewise.
func TestValuesOfALookup(t *testing.T) {
	s := api.System{Field: 3, Rows: 1, Main: 2, Fixed: columns(numbers(0, 0), numbers(0, 0))}
	s.Lookups = []api.Lookup{{Tuple: tuple(m(0), f(0)), Table: tuple(f(1), f(0)), Count: m(1)}}
	env := api.Env{Main: numbers(1, 2), Fixed: numbers(3, 4), Aux: numbers(0), AuxNext: numbers(0), Challenge: numbers(100, 10)}
	u, v := uint64(131), uint64(134)
	p := primes[3]
	wantValues(t, s, env, 2*u-v, 0)
	env.AuxNext[0] = 1
	wantValues(t, s, env, u*v+2*u-v, 0)
	env.Aux[0], env.AuxNext[0] = 1, 0
	wantValues(t, s, env, p-(u*v-2*u+v), 1)
	env.Aux[0], env.AuxNext[0] = 5, 8
	wantValues(t, s, env, 3*u*v+2*u-v, 5)
	env.Aux[0], env.AuxNext[0] = p+5, 2*p+8
	wantValues(t, s, env, 3*u*v+2*u-v, 5)
	env.Main[1] = 0
	wantValues(t, s, env, 3*u*v-v, 5)
	env.Main[1] = p + 1
	wantValues(t, s, env, 3*u*v+u-v, 5)
}

// TestTheOrderOfValues: rules, permutations, lookups, each with a column of its own.
func TestTheOrderOfValues(t *testing.T) {
	for field, p := range primes {
		s := several(field, 2, 3)
		env := api.Env{Main: make([]uint64, 3), Next: make([]uint64, 3), Fixed: make([]uint64, 2), Public: make([]uint64, 2), Aux: make([]uint64, 5), AuxNext: make([]uint64, 5), Challenge: numbers(1, 0)}
		all := func(change func(l []uint64)) {
			wanted := numbers(2, 0, 0, p-1, 0, p-1, p-1, 0, p-1, 0, p-1, 0)
			change(wanted)
			wantValues(t, s, env, wanted...)
		}
		all(func(l []uint64) {})
		for i := range 5 {
			env.Aux[i] = 7
			all(func(l []uint64) {
				l[2+2*i] = (l[2+2*i] + p - 7) % p
				l[3+2*i] = (l[3+2*i] + 7) % p
			})
			env.Aux[i], env.AuxNext[i] = 0, 7
			all(func(l []uint64) { l[2+2*i] = (l[2+2*i] + 7) % p })
			env.AuxNext[i] = 0
		}
		env.Next[0] = 5
		all(func(l []uint64) { l[0] = 7 })
		env.Public[0], env.Public[1] = 2, 3
		all(func(l []uint64) { l[0], l[1] = 7, 18 })
	}
}

func TestValuesOfAnInvalidSystem(t *testing.T) {
	r := rand.New(rand.NewSource(246))
	for field := range primes {
		env := someEnv(r, several(field, 4, 8))
		for _, s := range invalid(field) {
			wantNoValues(t, s, env, api.ErrArg)
			wantNoValues(t, s, api.Env{}, api.ErrArg)
		}
	}
}

// TestValuesWithTooFewValues: one less than is needed is too few, and no value of another kind helps.
func TestValuesWithTooFewValues(t *testing.T) {
	r := rand.New(rand.NewSource(247))
	least := func(s api.System) api.Env {
		z := len(s.Perms) + len(s.Lookups)
		return api.Env{Main: list(r, s.Main, 97), Fixed: list(r, len(s.Fixed), 97), Aux: list(r, z, 97), AuxNext: list(r, z, 97), Challenge: list(r, 2, 97)}
	}
	for field := range primes {
		for _, s := range []api.System{several(field, 1, 0), several(field, 0, 1), several(field, 4, 8), several(field, 2, 2)} {
			s.Rules = nil
			env := least(s)
			wantValues(t, s, env, valuesOf(s, env)...)
			whole := listsOf(&env)
			for i, l := range whole {
				if len(*l) == 0 {
					continue // Next and Public are not needed
				}
				for short := range len(*l) {
					env := copiedEnv(env)
					for j, other := range listsOf(&env) {
						*other = append(*other, list(r, 100, 97)...)
						if i == j {
							*other = (*other)[:short]
						}
					}
					wantNoValues(t, s, env, api.ErrRange)
				}
			}
		}
	}
}

// TestAllColumnsAreNeeded: also those that no tuple has.
func TestAllColumnsAreNeeded(t *testing.T) {
	for _, s := range []api.System{perm(), lookup()} {
		s.Main, s.Fixed = 4, append(s.Fixed, numbers(1, 2), numbers(3, 4))
		env := api.Env{Main: numbers(5, 2, 0, 0), Fixed: numbers(6, 0, 0), Aux: numbers(1), AuxNext: numbers(1), Challenge: numbers(1, 0)}
		wantValues(t, s, env, valuesOf(s, env)...)
		env.Main = env.Main[:3]
		wantNoValues(t, s, env, api.ErrRange)
		env.Main, env.Fixed = env.Main[:4], env.Fixed[:2]
		wantNoValues(t, s, env, api.ErrRange)
	}
}

// TestValuesOfRulesAlone: without argument columns nothing is needed but the variables of the rules.
func TestValuesOfRulesAlone(t *testing.T) {
	for field, p := range primes {
		s := several(field, 0, 0)
		wantNoValues(t, s, api.Env{}, api.ErrRange)
		s.Rules = nil
		wantValues(t, s, api.Env{})
		s.Rules = []api.Rule{{On: api.OnAll}, {On: api.OnFirst, Sum: sum(term(5))}}
		wantValues(t, s, api.Env{}, 0, 5)
		s.Rules = append(s.Rules, api.Rule{On: api.OnSteps, Sum: sum(term(p-1, n(1)), term(2, f(0)))})
		wantValues(t, s, api.Env{Next: numbers(0, 3), Fixed: numbers(4)}, 0, 5, 5)
		wantValues(t, s, api.Env{Next: numbers(0, 3+p), Fixed: numbers(4 + p)}, 0, 5, 5)
		wantNoValues(t, s, api.Env{Next: numbers(0), Fixed: numbers(4)}, api.ErrRange)
		wantNoValues(t, s, api.Env{Next: numbers(0, 3)}, api.ErrRange)
	}
}

// TestVariablesOfRulesThatAreNotThere: of each kind, even if the coefficient is 0 and the columns are there.
func TestVariablesOfRulesThatAreNotThere(t *testing.T) {
	for field := range primes {
		for _, z := range []int{0, 1} {
			s := several(field, z, z)
			for _, v := range []api.Var{m(2), n(2), f(1), p(1)} {
				s.Rules = []api.Rule{{On: api.OnSteps, Sum: sum(term(3))}, {On: api.OnSteps, Sum: sum(term(1), term(0, v))}}
				env := api.Env{Main: make([]uint64, 3), Next: make([]uint64, 3), Fixed: make([]uint64, 2), Public: make([]uint64, 2), Aux: make([]uint64, 2), AuxNext: make([]uint64, 2), Challenge: make([]uint64, 2)}
				wantValues(t, s, env, valuesOf(s, env)...)
				for i, kind := range []api.VarKind{api.VarMain, api.VarNext, api.VarFixed, api.VarPublic} {
					if kind == v.Kind {
						short := listsOf(&env)[i]
						*short = (*short)[:v.Index]
					}
				}
				wantNoValues(t, s, env, api.ErrRange)
			}
		}
	}
}
