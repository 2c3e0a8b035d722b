package compose

import (
	"math/rand"
	"slices"
	"testing"

	"attestor/api"
)

// P15.4

// valuesOf returns the values of a polynomial at the 2^k wide points.
func valuesOf(field, k int, h ...uint64) []uint64 {
	var out []uint64
	for i := range 1 << k {
		out = append(out, eval(field, h, widePoint(field, k, i)))
	}
	return out
}

// powers returns a system of two rows with rules OnAll for one column, each a sum of powers of its value.
func powers(field int, sums ...[]uint64) api.System {
	s := api.System{Field: field, Rows: 1, Main: 1}
	for _, coefs := range sums {
		var l []api.Mono
		for exponent, c := range coefs {
			l = append(l, term(c, slices.Repeat(tuple(m(0)), exponent)...))
		}
		s.Rules = append(s.Rules, api.Rule{On: api.OnAll, Sum: l})
	}
	return s
}

// TestColumnsOfKnownPolynomials: the column is the polynomial X, so that the rules are known polynomials, which X^2 - 1 divides.
func TestColumnsOfKnownPolynomials(t *testing.T) {
	for field, prime := range primes {
		w := api.Wide{Blow: 3, Main: columns(valuesOf(field, 4, 0, 1))}
		constant := func(x uint64) []uint64 { return valuesOf(field, 4, x) }
		// X^2 - 1 gives 1.
		square := numbers(prime-1, 0, 1)
		wantColumns(t, powers(field, square), w, 9, constant(1))
		// X^4 + X^3 - X - 1 gives 1 + X + X^2: 1 + X, and 1, and nothing.
		fourth := numbers(prime-1, prime-1, 0, 1, 1)
		wantColumns(t, powers(field, fourth), w, 9, valuesOf(field, 4, 1, 1), constant(1), constant(0))
		// The powers of a: of the rule 0, 1, 2.
		wantColumns(t, powers(field, fourth, square), w, 9, valuesOf(field, 4, 10, 1), constant(1), constant(0))
		wantColumns(t, powers(field, square, fourth), w, 9, valuesOf(field, 4, 10, 9), constant(9), constant(0))
		wantColumns(t, powers(field, square, square, fourth), w, 9, valuesOf(field, 4, 91, 81), constant(81), constant(0))
		wantColumns(t, powers(field, square, fourth), w, 0, constant(1), constant(0), constant(0))
		// X^3 + 1 is not 0 in the first row.
		wantNoColumns(t, "a rule that does not hold", powers(field, numbers(1, 0, 0, 1)), w, 9, api.ErrNone)
		wantNoColumns(t, "rules of which one does not hold", powers(field, square, numbers(1, 0, 0, 1)), w, 9, api.ErrNone)
		wantColumns(t, powers(field, square, numbers(1, 0, 0, 1)), w, 0, constant(1), constant(0))
	}
}

// TestColumnsOfNoConstraints: the composition is 0.
func TestColumnsOfNoConstraints(t *testing.T) {
	for field := range primes {
		w := api.Wide{Blow: 1, Main: columns(valuesOf(field, 2, 0, 1))}
		wantColumns(t, powers(field), w, 9, make([]uint64, 4))
		s := powers(field, nil, nil)
		wantColumns(t, s, w, 9, make([]uint64, 4))
	}
}

// TestTheNextWideRow: it is 2^b rows further, and goes on at the beginning.
func TestTheNextWideRow(t *testing.T) {
	for field, prime := range primes {
		for blow := 1; blow <= 4; blow++ {
			// A column of the polynomial X has in the next row the value w X, where w is -1 in systems of two rows.
			s := powers(field, nil)
			s.Rules[0].Sum = sum(term(1, n(0)), term(1, m(0)))
			w := api.Wide{Blow: blow, Main: columns(valuesOf(field, 1+blow, 0, 1))}
			wantColumns(t, s, w, 9, make([]uint64, 2<<blow))
			s = powers(field, nil)
			s.Rows, s.Rules[0].Sum = 2, sum(term(1, n(0)), term(prime-point(field, 2, 1), m(0)))
			if Possible(s, blow) {
				w = api.Wide{Blow: blow, Main: columns(valuesOf(field, 2+blow, 0, 1))}
				wantColumns(t, s, w, 9, make([]uint64, 4<<blow))
			}
		}
	}
}

// TestTheDegreeOfThePolynomial: columns of too high a degree may give it any degree, and only one of K n or more is refused.
func TestTheDegreeOfThePolynomial(t *testing.T) {
	for field, prime := range primes {
		for degree := 1; degree <= 4; degree++ {
			s := ofDegree(field, degree) // its own column is 0
			s.Main = 2
			s.Rules = append(s.Rules, api.Rule{On: api.OnFirst, Sum: sum(term(1, m(1)))})
			segments := max(1, degree-1)
			for most := range 16 {
				h := list(rand.New(rand.NewSource(int64(most))), most, prime)
				h = append(h, 1) // the polynomial, which times X - 1 is the column
				column := append(numbers(0), h...)
				for i, x := range h {
					column[i] = minus(field, column[i], x)
				}
				w := api.Wide{Blow: 3, Main: columns(make([]uint64, 16), valuesOf(field, 4, column...))}
				if most >= 2*segments {
					wantNoColumns(t, "a polynomial of too high a degree", s, w, 1, api.ErrNone)
					continue
				}
				var wanted [][]uint64
				h = append(h, make([]uint64, 8)...)
				for j := range segments {
					wanted = append(wanted, valuesOf(field, 4, h[2*j:2*j+2]...))
				}
				wantColumns(t, s, w, 1, wanted...)
			}
		}
	}
}

// TestColumnsOfAnything: with any columns the degree is mostly too high.
func TestColumnsOfAnything(t *testing.T) {
	r := rand.New(rand.NewSource(265))
	for field, prime := range primes {
		errors := 0
		for range 60 {
			blow := 1 + r.Intn(4)
			s := someSystem(r, field, blow)
			w, a := someWide(r, s, blow), r.Uint64()%prime
			wanted, ok := columnsOf(s, w, a)
			if ok {
				wantColumns(t, s, w, a, wanted...)
				continue
			}
			errors++
			wantNoColumns(t, "any columns", s, w, a, api.ErrNone)
		}
		if errors < 20 {
			t.Errorf("in the field %d there are columns all but %d times", field, errors)
		}
	}
}

// TestColumnsOfLowDegree: here the degree is always low enough, because the rules have a fixed column more than they need, which makes them hold at all wide points.
func TestColumnsOfLowDegree(t *testing.T) {
	r := rand.New(rand.NewSource(266))
	for field, prime := range primes {
		for range 30 {
			blow := 1 + r.Intn(4)
			s := someSystem(r, field, blow)
			s.Perms, s.Lookups = nil, nil
			w, a := someWide(r, s, blow), r.Uint64()%prime
			for i := range s.Rules {
				s.Rules[i].Sum = append(s.Rules[i].Sum, term(1, f(len(s.Fixed))))
				s.Fixed = append(s.Fixed, make([]uint64, 1<<s.Rows))
				w.Fixed = append(w.Fixed, make([]uint64, 1<<(s.Rows+blow)))
				h := list(r, max(1, degreeOf(s)-1)<<s.Rows, prime) // what the rule, divided, is to be
				aimFor(s, w, i, h)
			}
			wanted, ok := columnsOf(s, w, a)
			want(t, "whether the degree is low enough", ok, true)
			wantColumns(t, s, w, a, wanted...)
		}
	}
}

// aimFor changes the last wide fixed column, which stands alone in the last monomial of the rule i, so that the value of the rule is h times the divisor.
func aimFor(s api.System, w api.Wide, i int, h []uint64) {
	column := w.Fixed[len(w.Fixed)-1]
	k := s.Rows + w.Blow
	only := s
	only.Rules = s.Rules[i : i+1]
	for row := range column {
		x := widePoint(s.Field, k, row)
		got, _ := compositionOf(only, inWideRow(w, row), x, 0)
		column[row] = times(s.Field, minus(s.Field, eval(s.Field, h, x), got), divisorOf(s.Field, s.Rows, only.Rules[0].On, x))
	}
}

// TestTheFixedColumnsOfTheSystemDoNotCount: only the wide ones do.
func TestTheFixedColumnsOfTheSystemDoNotCount(t *testing.T) {
	for field, prime := range primes {
		s := api.System{Field: field, Rows: 1, Main: 1, Fixed: columns(numbers(8, 9)),
			Rules: []api.Rule{{On: api.OnAll, Sum: sum(term(1, m(0)), term(prime-1, f(0)))}}}
		w := api.Wide{Blow: 1, Main: columns(valuesOf(field, 2, 3, 4)), Fixed: columns(valuesOf(field, 2, 3, 4))}
		wantColumns(t, s, w, 5, make([]uint64, 4))
	}
}

// fitting returns a system with one permutation, one fixed column and one public input, and wide columns for it: all zeros, but for the first row of the argument column, and for these there are columns.
func fitting(field int) (api.System, api.Wide) {
	s := api.System{Field: field, Rows: 1, Main: 2, Public: 1, Fixed: columns(numbers(0, 0)),
		Perms: []api.Perm{{Left: tuples(tuple(m(0))), Right: tuples(tuple(f(0)))}}}
	one := valuesOf(field, 3, 1)
	zero := make([]uint64, 8)
	return s, api.Wide{Blow: 2, Fixed: columns(zero), Main: columns(zero, zero), Aux: columns(one), Public: numbers(0), Challenge: numbers(1, 0)}
}

// changed returns a copy of wide columns that is changed.
func changed(w api.Wide, do func(w *api.Wide)) api.Wide {
	w = copiedWide(w)
	do(&w)
	return w
}

func TestWhatFits(t *testing.T) {
	for field, prime := range primes {
		s, w := fitting(field)
		zero := make([]uint64, 8)
		for _, do := range []func(w *api.Wide){
			func(w *api.Wide) {},
			func(w *api.Wide) { w.Public[0] = prime - 1 },
			func(w *api.Wide) { w.Challenge[0], w.Challenge[1] = prime-1, prime-1 },
			func(w *api.Wide) { w.Challenge = append(w.Challenge, 0, prime-1, 7) }, // more than two are ignored
			func(w *api.Wide) { w.Main[1] = valuesOf(field, 3, prime-1) },
		} {
			wantColumns(t, s, changed(w, do), prime-1, zero)
		}
	}
}

// TestNumbersOfColumns: of all lists there must be as many as the system has, and they have a value for each wide row.
func TestNumbersOfColumns(t *testing.T) {
	for field := range primes {
		s, w := fitting(field)
		zero := make([]uint64, 8)
		for name, do := range map[string]func(w *api.Wide){
			"no fixed column":        func(w *api.Wide) { w.Fixed = nil },
			"two fixed columns":      func(w *api.Wide) { w.Fixed = columns(zero, zero) },
			"no main column":         func(w *api.Wide) { w.Main = nil },
			"one main column":        func(w *api.Wide) { w.Main = columns(zero) },
			"three main columns":     func(w *api.Wide) { w.Main = columns(zero, zero, zero) },
			"no argument column":     func(w *api.Wide) { w.Aux = nil },
			"two argument columns":   func(w *api.Wide) { w.Aux = append(w.Aux, zero) },
			"no public input":        func(w *api.Wide) { w.Public = nil },
			"two public inputs":      func(w *api.Wide) { w.Public = numbers(0, 0) },
			"no challenge":           func(w *api.Wide) { w.Challenge = nil },
			"one challenge":          func(w *api.Wide) { w.Challenge = numbers(1) },
			"columns for another b":  func(w *api.Wide) { w.Blow = 3 },
			"nothing":                func(w *api.Wide) { *w = api.Wide{Blow: 2} },
			"nothing, without blow":  func(w *api.Wide) { *w = api.Wide{} },
			"columns that are empty": func(w *api.Wide) { w.Fixed, w.Main, w.Aux = columns(nil), columns(nil, nil), columns(nil) },
		} {
			wantNoColumns(t, name, s, changed(w, do), 1, api.ErrArg)
		}
		for _, length := range []int{0, 1, 2, 4, 7, 9, 16} {
			l := make([]uint64, length)
			for name, do := range map[string]func(w *api.Wide){
				"a fixed column":         func(w *api.Wide) { w.Fixed[0] = l },
				"the first main column":  func(w *api.Wide) { w.Main[0] = l },
				"the last main column":   func(w *api.Wide) { w.Main[1] = l },
				"an argument column":     func(w *api.Wide) { w.Aux[0] = l },
				"columns all too long":   func(w *api.Wide) { w.Fixed, w.Main, w.Aux = columns(l), columns(l, l), columns(l) },
				"the main columns alone": func(w *api.Wide) { w.Main = columns(l, l) },
			} {
				wantNoColumns(t, name+" of another length", s, changed(w, do), 1, api.ErrArg)
			}
		}
	}
}

// TestNumbersThatAreNoElements: wherever they stand.
func TestNumbersThatAreNoElements(t *testing.T) {
	for field, prime := range primes {
		s, w := fitting(field)
		for _, x := range []uint64{prime, prime + 1, 2 * prime, 1 << 32, greatest} {
			for _, row := range []int{0, 1, 2, 7} {
				for name, do := range map[string]func(w *api.Wide){
					"a fixed column":        func(w *api.Wide) { w.Fixed[0][row] = x },
					"the first main column": func(w *api.Wide) { w.Main[0][row] = x },
					"the last main column":  func(w *api.Wide) { w.Main[1][row] = x },
					"an argument column":    func(w *api.Wide) { w.Aux[0][row] = x },
				} {
					wantNoColumns(t, name+" with such a number", s, changed(w, do), 1, api.ErrArg)
				}
			}
			for name, do := range map[string]func(w *api.Wide){
				"a public input":       func(w *api.Wide) { w.Public[0] = x },
				"the first challenge":  func(w *api.Wide) { w.Challenge[0] = x },
				"the second challenge": func(w *api.Wide) { w.Challenge[1] = x },
				"a further challenge":  func(w *api.Wide) { w.Challenge = append(w.Challenge, 0, x) },
			} {
				wantNoColumns(t, name, s, changed(w, do), 1, api.ErrArg)
			}
			wantNoColumns(t, "an a that is no element", s, w, x, api.ErrArg)
		}
	}
}

// TestChallengesWithoutArgumentColumns: none is needed, but those that are there must be elements.
func TestChallengesWithoutArgumentColumns(t *testing.T) {
	for field, prime := range primes {
		s := counter(field, 2)
		w := api.Wide{Blow: 1, Main: widened(t, field, 1, columns(numbers(7, 8, 9, 10)))}
		wanted, ok := columnsOf(s, w, 5)
		want(t, "whether the degree is low enough", ok, true)
		for _, challenge := range [][]uint64{nil, numbers(), numbers(0), numbers(prime - 1), numbers(1, 2), numbers(1, 2, 3)} {
			w.Challenge = challenge
			wantColumns(t, s, w, 5, wanted...)
		}
		for _, challenge := range [][]uint64{numbers(prime), numbers(1, prime), numbers(1, 2, greatest)} {
			w.Challenge = challenge
			wantNoColumns(t, "challenges that are no elements", s, w, 5, api.ErrArg)
		}
	}
}

// TestBlowUpsThatAreNotPossible: also with columns of the length that they ask for.
func TestBlowUpsThatAreNotPossible(t *testing.T) {
	for field := range primes {
		for _, b := range blows {
			for degree := 1; degree <= 8; degree++ {
				s := ofDegree(field, degree)
				if Possible(s, b) {
					continue
				}
				for _, blow := range []int{max(-1, min(8, b)), 0, 1, 4} {
					wantNoColumns(t, "a blow-up that is not possible", s, api.Wide{Blow: b, Main: columns(make([]uint64, 2<<max(0, blow)))}, 1, api.ErrArg)
				}
			}
		}
	}
	wantNoColumns(t, "all elements but 0 as wide points", counter(1, 7), api.Wide{Blow: 1, Main: columns(make([]uint64, 256))}, 1, api.ErrArg)
	wantNoColumns(t, "more points than there are", counter(0, 5), api.Wide{Blow: 1, Main: columns(make([]uint64, 64))}, 1, api.ErrArg)
}

func TestColumnsOfInvalidSystems(t *testing.T) {
	r := rand.New(rand.NewSource(267))
	for field := range primes {
		w := someWide(r, rich(field), 3)
		for _, s := range invalid(field) {
			wantNoColumns(t, "an invalid system", s, w, 1, api.ErrArg)
			wantNoColumns(t, "an invalid system", s, api.Wide{}, 1, api.ErrArg)
			wantNoColumns(t, "an invalid system", s, api.Wide{Blow: 3}, greatest, api.ErrArg)
		}
	}
}

// TestTheGreatestColumns: 2^18 wide points.
func TestTheGreatestColumns(t *testing.T) {
	s := counter(3, 13)
	var main []uint64
	for i := range uint64(1 << 13) {
		main = append(main, 7+i)
	}
	s.Fixed = columns(main)
	s.Rules = append(s.Rules, api.Rule{On: api.OnAll, Sum: sum(term(1, m(0), m(0)), term(primes[3]-1, f(0), f(0)))})
	l := widened(t, 3, 5, columns(main))
	got, e := Columns(s, api.Wide{Blow: 5, Main: l, Fixed: l}, 12345)
	want(t, "the error", e, api.OK)
	want(t, "the number of columns", len(got), 1)
	want(t, "their length", len(got[0]), 1<<18)
	for _, i := range []int{0, 1, 31, 32, 4711, 1<<18 - 33, 1<<18 - 32, 1<<18 - 1} {
		env := api.Env{Main: l[0][i : i+1], Next: numbers(l[0][(i+32)%(1<<18)]), Fixed: l[0][i : i+1]}
		x := widePoint(3, 18, i)
		wanted, e := At(s, env, x, 12345)
		want(t, "the error", e, api.OK)
		want(t, "the value at a wide point", got[0][i], wanted)
	}
}
