package compose

import (
	"math"
	"math/rand"
	"slices"
	"testing"

	"attestor/api"
	"attestor/argument"
)

// P15.1

func TestSegments(t *testing.T) {
	for field := range primes {
		for degree, wanted := range []int{1, 1, 1, 2, 3, 4, 5, 6, 7} {
			want(t, "Segments of a rule", Segments(ofDegree(field, degree)), wanted)
		}
		s := counter(field, 1)
		s.Rules = nil
		want(t, "Segments of no rule", Segments(s), 1)
		for count := 1; count <= 4; count++ {
			s.Perms = []api.Perm{{Left: slices.Repeat(tuples(tuple(m(0))), count), Right: slices.Repeat(tuples(tuple(m(0))), count)}}
			want(t, "Segments of a permutation", Segments(s), count)
		}
		want(t, "Segments of several parts", Segments(rich(field)), 2)
		s = ofDegree(field, 1)
		s.Public = 1
		s.Rules[0].Sum[0].Vars = tuple(p(0), m(0), p(0), p(0), m(0), p(0), p(0), p(0))
		want(t, "Segments of a rule with public inputs", Segments(s), 1)
	}
}

func TestSegmentsOfALookup(t *testing.T) {
	s := rich(2)
	s.Perms, s.Rules = nil, nil
	want(t, "Segments of lookups", Segments(s), 2)
	s.Lookups = s.Lookups[:1]
	want(t, "Segments of a lookup", Segments(s), 2)
	s.Rules = ofDegree(2, 3).Rules
	want(t, "Segments of a lookup and a rule of degree 3", Segments(s), 2)
	s.Rules = ofDegree(2, 4).Rules
	want(t, "Segments of a lookup and a rule of degree 4", Segments(s), 3)
}

// blows are numbers that may be tried as a blow-up.
var blows = []int{math.MinInt, math.MinInt + 1, -1 << 32, -63, -5, -2, -1, 0, 1, 2, 3, 4, 5, 6, 7, 8, 10, 12, 22, 62, 63, 64, 65, 1 << 32, math.MaxInt - 1, math.MaxInt}

// TestPossible: in all fields, with all numbers of rows and all degrees.
func TestPossible(t *testing.T) {
	for field, prime := range primes {
		for rows := 1; rows <= min(13, twos[field]); rows++ {
			for degree := 0; degree <= 8; degree++ {
				s := ofDegree(field, degree)
				s.Rows = rows
				for _, b := range blows {
					wanted := false
					if b >= 1 && b <= 5 && rows+b <= twos[field] {
						wanted = prime-1 > 1<<(rows+b) && 1<<b >= 2*max(1, degree)
					}
					if got := Possible(s, b); got != wanted {
						t.Errorf("Possible in the field %d with %d rows, degree %d, blow-up %d is %v", field, rows, degree, b, got)
					}
				}
			}
		}
	}
}

// TestPossibleAtTheEdges: each condition decides alone.
func TestPossibleAtTheEdges(t *testing.T) {
	for _, x := range []struct {
		field, rows, degree, b int
		wanted                 bool
	}{
		{0, 4, 1, 1, true},
		{0, 5, 1, 1, false}, // more points than a subgroup has
		{0, 1, 8, 4, true},
		{0, 1, 1, 5, false},
		{1, 2, 1, 5, true},
		{1, 3, 1, 5, false}, // the subgroup would be all elements but 0
		{1, 6, 1, 1, true},
		{1, 7, 1, 1, false},
		{1, 8, 1, 1, false},
		{2, 7, 1, 5, true},
		{2, 8, 1, 5, false},
		{2, 11, 1, 1, true},
		{2, 12, 1, 1, false},
		{3, 13, 1, 5, true},
		{3, 1, 1, 1, true},
		{3, 1, 1, 0, false},
		{3, 1, 1, 6, false},
		{3, 1, 2, 1, false},
		{3, 1, 2, 2, true},
		{3, 1, 3, 2, false},
		{3, 1, 4, 3, true},
		{3, 1, 5, 3, false},
		{3, 1, 8, 4, true},
		{3, 1, 8, 3, false},
	} {
		s := ofDegree(x.field, x.degree)
		s.Rows = x.rows
		if got := Possible(s, x.b); got != x.wanted {
			t.Errorf("Possible of %v is %v", x, got)
		}
	}
	for b, wanted := range []bool{false, false, false, true, true, true, false} {
		want(t, "Possible of lookups", Possible(rich(2), b), wanted)
	}
}

func TestInvalidSystems(t *testing.T) {
	for field := range primes {
		for i, s := range invalid(field) {
			if got := Segments(s); got != 0 {
				t.Errorf("Segments of the invalid system %d is %d", i, got)
			}
			for _, b := range blows {
				if Possible(s, b) {
					t.Errorf("the blow-up %d is possible for the invalid system %d", b, i)
				}
			}
		}
	}
}

// P15.2 (At)

func TestAt(t *testing.T) {
	r := rand.New(rand.NewSource(260))
	for field, prime := range primes {
		defined := 0
		for range 500 {
			s := someSystem(r, field, 1+r.Intn(4))
			env := someEnv(r, s)
			x, a := r.Uint64()%prime, r.Uint64()%prime
			wanted, ok := compositionOf(s, env, x, a)
			if !ok {
				wantNotAt(t, s, env, x, a, api.ErrNone)
				continue
			}
			defined++
			wantAt(t, s, env, x, a, wanted)
		}
		if defined < 300 {
			t.Errorf("in the field %d there is a composition only %d times", field, defined)
		}
	}
}

// TestAtCountsModuloP: x and a, and also what is in the environment.
func TestAtCountsModuloP(t *testing.T) {
	for field, prime := range primes {
		s := rich(field)
		env := someEnv(rand.New(rand.NewSource(261)), s)
		for _, l := range listsOf(&env) {
			for i := range *l {
				(*l)[i] = uint64(i)
			}
		}
		wanted, e := At(s, env, 7, 6)
		want(t, "the error", e, api.OK)
		wantAt(t, s, env, 7+prime, 6+prime, wanted)
		wantAt(t, s, env, (greatest-7)/prime*prime+7, (greatest-6)/prime*prime+6, wanted)
		for _, l := range listsOf(&env) {
			for i := range *l {
				(*l)[i] += prime
			}
		}
		wantAt(t, s, env, 7, 6, wanted)
		wantNotAt(t, s, env, prime+1, 6, api.ErrNone)
	}
}

// constants returns a system with a rule that has the value 1 in all rows, for each on.
func constants(field, rows int, ons ...api.On) api.System {
	s := api.System{Field: field, Rows: rows, Main: 1}
	for _, on := range ons {
		s.Rules = append(s.Rules, api.Rule{On: on, Sum: sum(term(1))})
	}
	return s
}

// TestTheDivisorsOfAt: at the point of a row, there is no composition just if a constraint is asked in this row, even if its value is 0.
func TestTheDivisorsOfAt(t *testing.T) {
	for field := range primes {
		for rows := 1; rows <= 4; rows++ {
			for _, on := range ons {
				s := constants(field, rows, on)
				zero := constants(field, rows, on)
				zero.Rules[0].Sum = nil
				for row := range 1 << rows {
					x := point(field, rows, row)
					if slices.Contains(asked(rows, on), row) {
						wantNotAt(t, s, api.Env{}, x, 3, api.ErrNone)
						wantNotAt(t, zero, api.Env{}, x, 3, api.ErrNone)
						wantNotAt(t, constants(field, rows, api.OnFirst, api.OnLast, on), api.Env{}, x, 0, api.ErrNone)
						continue
					}
					wantAt(t, s, api.Env{}, x, 3, over(field, 1, divisorOf(field, rows, on, x)))
					wantAt(t, zero, api.Env{}, x, 3, 0)
				}
			}
		}
	}
}

// TestThePowersOfAt: the constraint j has the power j of a, that of 0 included.
func TestThePowersOfAt(t *testing.T) {
	for field := range primes {
		for _, a := range []uint64{0, 1, 2, 10, 96} {
			s := constants(field, 2, slices.Repeat(ons, 16)...)
			total := uint64(0)
			for j := range s.Rules {
				d := divisorOf(field, 2, ons[j%4], 40)
				total = plus(field, total, over(field, power(field, a, j), d))
			}
			wantAt(t, s, api.Env{}, 40, a, total)
		}
		wantAt(t, constants(field, 2), api.Env{}, 1, 5, 0) // nothing is divided
		wantAt(t, constants(field, 2), api.Env{}, 40, 5, 0)
	}
}

// TestTheConstraintsOfAt: those of permutations and lookups too.
func TestTheConstraintsOfAt(t *testing.T) {
	s := api.System{Rows: 1, Main: 1, Fixed: columns(numbers(6, 5)), Perms: []api.Perm{{Left: tuples(tuple(m(0))), Right: tuples(tuple(f(0)))}}}
	env := api.Env{Main: numbers(5), Fixed: numbers(6), Aux: numbers(3), AuxNext: numbers(84), Challenge: numbers(1, 0)}
	// 84 (6 + 1) - 3 (5 + 1) is 85, divided by 24; 3 - 1 is 2, divided by 4.
	wantAt(t, s, env, 5, 10, plus(0, over(0, 85, 24), times(0, 10, over(0, 2, 4))))
	s = api.System{Rows: 1, Main: 2, Fixed: columns(numbers(6, 5)), Lookups: []api.Lookup{{Tuple: tuple(m(0)), Table: tuple(f(0)), Count: m(1)}}}
	env = api.Env{Main: numbers(5, 2), Fixed: numbers(6), Aux: numbers(3), AuxNext: numbers(4), Challenge: numbers(1, 0)}
	// (4 - 3) 6 7 - 7 + 2 6 is 47.
	wantAt(t, s, env, 5, 10, plus(0, over(0, 47, 24), times(0, 10, over(0, 3, 4))))
}

// TestErrorsOfAtInTheirOrder: those of the values come first.
func TestErrorsOfAtInTheirOrder(t *testing.T) {
	r := rand.New(rand.NewSource(262))
	for field := range primes {
		for _, s := range invalid(field) {
			for _, x := range []uint64{0, 1, 7, primes[field] - 1, greatest} {
				wantNotAt(t, s, someEnv(r, rich(field)), x, 3, api.ErrArg)
				wantNotAt(t, s, api.Env{}, x, greatest, api.ErrArg)
			}
		}
		s := rich(field)
		for i := range 7 {
			env := someEnv(r, s)
			*listsOf(&env)[i] = nil
			_, e := argument.Values(s, env)
			want(t, "the error of the values", e, api.ErrRange)
			for _, x := range []uint64{0, 1, 7, primes[field] - 1, greatest} {
				wantNotAt(t, s, env, x, 3, api.ErrRange)
			}
		}
		wantNotAt(t, s, someEnv(r, s), 1, 3, api.ErrNone)
	}
}

// P15.3

func TestJoin(t *testing.T) {
	r := rand.New(rand.NewSource(263))
	for field, prime := range primes {
		for range 300 {
			rows := 1 + r.Intn(min(13, twos[field]))
			parts := list(r, r.Intn(9), []uint64{2, prime, 2 * prime, greatest}[r.Intn(4)])
			x := []uint64{0, 1, prime - 1, prime, prime + 1, r.Uint64() % prime, r.Uint64()}[r.Intn(7)]
			wanted := uint64(0)
			for j, part := range parts {
				wanted = plus(field, wanted, times(field, part, power(field, x, j<<rows)))
			}
			want(t, "Join", Join(field, rows, parts, x), wanted)
		}
	}
}

func TestJoinOfFewParts(t *testing.T) {
	for field, prime := range primes {
		want(t, "Join of no parts", Join(field, 1, nil, 5), 0)
		want(t, "Join of no parts in a list", Join(field, 1, numbers(), 5), 0)
		want(t, "Join of one part", Join(field, 1, numbers(7), 5), 7)
		want(t, "Join of one part that is no element", Join(field, 1, numbers(prime+7), 5), 7)
		want(t, "Join of one part at 0", Join(field, 2, numbers(7, 8, 9), 0), 7)
		want(t, "Join of parts at 1", Join(field, 2, numbers(7, 8, 9), 1), 24)
		want(t, "Join of zeros", Join(field, 2, numbers(0, 0, 1), 2), power(field, 2, 8))
	}
}

func TestJoinWithoutRows(t *testing.T) {
	for _, field := range noFields {
		want(t, "Join in no field", Join(field, 1, numbers(3, 4), 5), 0)
	}
	for field := range primes {
		for _, rows := range noRows(field) {
			want(t, "Join without rows", Join(field, rows, numbers(3, 4), 5), 0)
		}
		want(t, "Join of the greatest rows", Join(field, min(13, twos[field]), numbers(3, 4), 1), 7)
	}
}

// noRows are numbers that are no Rows in a field.
func noRows(field int) []int {
	out := []int{0, -1, -2, -63, -64, math.MinInt, 14, 15, 23, 24, 63, 64, 65, 1 << 32, math.MaxInt}
	return append(out, min(13, twos[field])+1)
}
