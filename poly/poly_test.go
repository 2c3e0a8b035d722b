package poly

import (
	"math"
	"math/rand"
	"slices"
	"testing"

	"attestor/api"
)

// P3.1

func TestNormalAndDegree(t *testing.T) {
	for f := range primes {
		for _, p := range lists(f) {
			wanted := plain(f, p)
			wantList(t, "Normal", Normal(f, p), wanted)
			want(t, "Degree", Degree(f, p), len(wanted)-1)
			wantList(t, "Normal with zeros at the end", Normal(f, slices.Concat(p, []uint64{0, primes[f], 0})), wanted)
			want(t, "Degree with zeros at the end", Degree(f, slices.Concat(p, []uint64{0, primes[f], 0})), len(wanted)-1)
		}
	}
}

func TestAddAndSub(t *testing.T) {
	for f := range primes {
		for _, a := range lists(f) {
			for _, b := range lists(f) {
				wantList(t, "Add", Add(f, a, b), plus(f, a, 1, b))
				wantList(t, "Sub", Sub(f, a, b), plus(f, a, primes[f]-1, b))
			}
			wantList(t, "p - p", Sub(f, a, a), nil)
			wantList(t, "p - p in other numbers", Sub(f, a, plain(f, a)), nil)
			wantList(t, "p + 0", Add(f, a, nil), plain(f, a))
			wantList(t, "0 + p", Add(f, []uint64{}, a), plain(f, a))
			wantList(t, "p - 0", Sub(f, a, []uint64{0, 0}), plain(f, a))
			wantList(t, "0 - p", Sub(f, nil, a), plus(f, nil, primes[f]-1, a))
		}
	}
}

func TestSumsThatLoseTheirLastCoefficients(t *testing.T) {
	for f, p := range primes {
		wantList(t, "Add", Add(f, []uint64{1, 2, 3}, []uint64{p - 1, 7, p - 3}), []uint64{0, 9})
		wantList(t, "Add of opposites", Add(f, []uint64{1, 2, 3}, []uint64{p - 1, p - 2, p - 3}), nil)
		wantList(t, "Sub", Sub(f, []uint64{1, 2, 3}, []uint64{1, 3, p + 3}), []uint64{0, p - 1})
		wantList(t, "Sub of a longer list", Sub(f, []uint64{1}, []uint64{0, 0, 1, p}), []uint64{1, 0, p - 1})
	}
}

func TestScale(t *testing.T) {
	for f := range primes {
		for _, p := range lists(f) {
			for _, s := range numbers(f) {
				wantList(t, "Scale", Scale(f, p, s), plus(f, nil, s, p))
			}
		}
	}
}

func TestEval(t *testing.T) {
	for f := range primes {
		for _, p := range lists(f) {
			for _, x := range numbers(f) {
				want(t, "Eval", Eval(f, p, x), value(f, p, x))
			}
		}
	}
	long := some(rand.New(rand.NewSource(31)), 3, 40000)
	want(t, "Eval of a long list", Eval(3, long, 5), value(3, long, 5))
}

// P3.2

func TestShift(t *testing.T) {
	for f := range primes {
		for _, p := range lists(f) {
			for _, s := range numbers(f) {
				wanted := plain(f, p)
				for j := range wanted {
					wanted[j] = wanted[j] * power(f, s, j) % primes[f]
				}
				wantList(t, "Shift", Shift(f, p, s), plain(f, wanted))
			}
			wantList(t, "Shift by 1", Shift(f, p, 1), plain(f, p))
		}
		wantList(t, "Shift by 0", Shift(f, []uint64{7, 8, 9}, 0), []uint64{7})
		wantList(t, "Shift by P", Shift(f, []uint64{0, 8, 9}, primes[f]), nil)
	}
}

// parts returns the m parts of a polynomial, without the program.
func parts(f int, p []uint64, m int) [][]uint64 {
	out := make([][]uint64, m)
	for j := range out {
		for i := j; i < len(p); i += m {
			out[j] = append(out[j], p[i])
		}
		out[j] = plain(f, out[j])
	}
	return out
}

func TestSplit(t *testing.T) {
	for f := range primes {
		for _, p := range lists(f) {
			for m := 1; m <= 64; m++ {
				wantLists(t, "Split", Split(f, p, m), parts(f, p, m))
			}
			for _, m := range []int{0, -1, -64, 65, 66, 128, math.MinInt, math.MaxInt, 1<<32 + 1} {
				want(t, "the number of parts of Split into too few or too many", len(Split(f, p, m)), 0)
			}
		}
		for _, m := range []int{1, 8, 63, 64} {
			want(t, "the number of parts of 0", len(Split(f, nil, m)), m)
		}
	}
}

func TestJoin(t *testing.T) {
	r := rand.New(rand.NewSource(32))
	for f := range primes {
		all := lists(f)
		for m := range 65 {
			for range 5 {
				l := make([][]uint64, m)
				for j := range l {
					l[j] = all[r.Intn(len(all))]
				}
				// The sum as the chapter says it, in a list that has room for all of it.
				wanted := make([]uint64, 64*80)
				for j, p := range l {
					for i, c := range p {
						wanted[i*m+j] = c
					}
				}
				wantList(t, "Join", Join(f, l), plain(f, wanted))
			}
		}
	}
}

func TestJoinOfNoPartsAndOfTooMany(t *testing.T) {
	for f := range primes {
		wantList(t, "Join of nil", Join(f, nil), nil)
		wantList(t, "Join of no parts", Join(f, [][]uint64{}), nil)
		wantList(t, "Join of one part", Join(f, [][]uint64{{1, 2, primes[f]}}), []uint64{1, 2})
		wantList(t, "Join of parts that are 0", Join(f, [][]uint64{nil, {}, {0, primes[f]}}), nil)
		wantList(t, "Join of parts of different lengths", Join(f, [][]uint64{{1}, nil, {2, 3}, {0, 0, 4, 0}}), []uint64{1, 0, 2, 0, 0, 0, 3, 0, 0, 0, 0, 4})
		for _, n := range []int{65, 66, 100, 1000} {
			wantList(t, "Join of too many parts", Join(f, slices.Repeat([][]uint64{{1, 2}}, n)), nil)
		}
		wantList(t, "Join of 64 parts", Join(f, slices.Repeat([][]uint64{{1}}, 64)), slices.Repeat([]uint64{1}, 64))
	}
}

// P3.5

func TestValuesRespectAllOperations(t *testing.T) {
	for f, prime := range primes {
		for _, a := range lists(f) {
			for _, b := range lists(f) {
				product, e := Mul(f, a, b)
				want(t, "the error of Mul", e, api.OK)
				for _, x := range numbers(f) {
					v, w := Eval(f, a, x), Eval(f, b, x)
					want(t, "the value of a + b", Eval(f, Add(f, a, b), x), (v+w)%prime)
					want(t, "the value of a - b", Eval(f, Sub(f, a, b), x), (v+prime-w)%prime)
					want(t, "the value of a b", Eval(f, product, x), v*w%prime)
				}
			}
		}
	}
}

func TestValuesRespectShiftAndSplit(t *testing.T) {
	for f, prime := range primes {
		for _, p := range lists(f) {
			for _, x := range numbers(f) {
				for _, s := range numbers(f) {
					want(t, "the value of p(s X)", Eval(f, Shift(f, p, s), x), Eval(f, p, s%prime*(x%prime)))
				}
				for _, m := range []int{1, 2, 3, 8, 63, 64} {
					sum := uint64(0)
					for j, part := range Split(f, p, m) {
						sum = (sum + power(f, x, j)*Eval(f, part, power(f, x, m))) % prime
					}
					want(t, "the sum of the values of the parts", sum, Eval(f, p, x))
				}
			}
			for m := 1; m <= 64; m++ {
				wantList(t, "Join of Split", Join(f, Split(f, p, m)), plain(f, p))
			}
		}
	}
}

// P1

func TestFunctionsWithoutAField(t *testing.T) {
	for _, f := range noFields {
		for _, p := range lists(0) {
			wantList(t, "Normal", Normal(f, p), nil)
			want(t, "Degree", Degree(f, p), -1)
			for _, q := range lists(0) {
				wantList(t, "Add", Add(f, p, q), nil)
				wantList(t, "Sub", Sub(f, p, q), nil)
			}
			for _, x := range numbers(0) {
				wantList(t, "Scale", Scale(f, p, x), nil)
				want(t, "Eval", Eval(f, p, x), 0)
				wantList(t, "Shift", Shift(f, p, x), nil)
			}
			for _, m := range []int{-1, 0, 1, 2, 64, 65} {
				want(t, "the number of parts of Split", len(Split(f, p, m)), 0)
			}
			wantList(t, "Join", Join(f, [][]uint64{p, {1, 2, 3}}), nil)
		}
		wantList(t, "Join of no parts", Join(f, nil), nil)
	}
}

// answers returns what all functions say of some arguments, but their errors.
func answers(f int, a, b []uint64, x uint64, m int) [][]uint64 {
	product, e1 := Mul(f, a, b)
	q, r, e2 := Divide(f, a, b)
	through, e3 := Through(f, a, b)
	vanish, e4 := Vanish(f, a)
	out := [][]uint64{
		Normal(f, a), Add(f, a, b), Sub(f, a, b), Scale(f, a, x), Shift(f, a, x),
		Join(f, [][]uint64{a, b}), product, q, r, through, vanish,
	}
	out = append(out, Split(f, a, m)...)
	// The numbers come last: they are no polynomials.
	return append(out, []uint64{uint64(Degree(f, a)), Eval(f, a, x), uint64(e1), uint64(e2), uint64(e3), uint64(e4)})
}

func TestAllArgumentsHaveAnAnswerThatStays(t *testing.T) {
	for _, f := range append([]int{0, 1, 2, 3}, noFields...) {
		all := lists(f & 3)
		for _, a := range all {
			for j, b := range all {
				x, m := numbers(f & 3)[j%15], []int{math.MinInt, -1, 0, 1, 2, 3, 8, 64, 65, math.MaxInt}[j%10]
				once, again := answers(f, a, b, x, m), answers(f, slices.Clone(a), roomy(b), x, m)
				wantLists(t, "the second answer", again, once)
				for _, p := range once[:len(once)-1] {
					if f >= 0 && f < 4 {
						wantNormal(t, "a result", f, p)
					} else {
						wantList(t, "a result without a field", p, nil)
					}
				}
			}
		}
	}
}

// Rule 3

func TestResultsShareNoMemory(t *testing.T) {
	for f := range primes {
		for _, a := range lists(f) {
			for _, b := range lists(f) {
				a, b := roomy(a), roomy(b)
				both := [][]uint64{a, b}
				wantApart(t, "Normal", both, func() [][]uint64 { return [][]uint64{Normal(f, a), Normal(f, a)} })
				wantApart(t, "Add", both, func() [][]uint64 { return [][]uint64{Add(f, a, b), Add(f, b, a), Add(f, a, nil)} })
				wantApart(t, "Sub", both, func() [][]uint64 { return [][]uint64{Sub(f, a, b), Sub(f, b, a), Sub(f, a, nil)} })
				wantApart(t, "Scale and Shift", both, func() [][]uint64 { return [][]uint64{Scale(f, a, 1), Shift(f, a, 1), Scale(f, a, 0)} })
				wantApart(t, "Eval and Degree", both, func() [][]uint64 { return [][]uint64{{Eval(f, a, 2), uint64(Degree(f, b))}} })
				wantApart(t, "Join", both, func() [][]uint64 {
					return [][]uint64{Join(f, both), Join(f, [][]uint64{a}), Join(f, [][]uint64{a, nil})}
				})
				wantApart(t, "Mul", both, func() [][]uint64 {
					p, _ := Mul(f, a, b)
					square, _ := Mul(f, a, a)
					same, _ := Mul(f, a, []uint64{1})
					return [][]uint64{p, square, same}
				})
				wantApart(t, "Divide", both, func() [][]uint64 {
					q, r, _ := Divide(f, a, b)
					same, none, _ := Divide(f, a, []uint64{1})
					return [][]uint64{q, r, same, none}
				})
				wantApart(t, "Through and Vanish", both, func() [][]uint64 {
					p, _ := Through(f, a, b)
					v, _ := Vanish(f, a)
					return [][]uint64{p, v}
				})
			}
			for _, m := range []int{1, 2, 8, 64} {
				a := roomy(a)
				wantApart(t, "Split", [][]uint64{a}, func() [][]uint64 { return Split(f, a, m) })
			}
		}
	}
}

// The examples of the chapter

func TestExamples(t *testing.T) {
	wantList(t, "Normal((98, 0, 97))", Normal(0, []uint64{98, 0, 97}), []uint64{1})
	want(t, "Degree((0, 0, 97))", Degree(0, []uint64{0, 0, 97}), -1)
	want(t, "Degree((5))", Degree(0, []uint64{5}), 0)
	want(t, "Eval((3, 2), 5)", Eval(0, []uint64{3, 2}, 5), 13)
	wantList(t, "Shift((1, 1, 1), 2)", Shift(0, []uint64{1, 1, 1}, 2), []uint64{1, 2, 4})
	split := Split(0, []uint64{1, 2, 3, 4, 5}, 2)
	wantLists(t, "Split((1, 2, 3, 4, 5), 2)", split, [][]uint64{{1, 3, 5}, {2, 4}})
	wantList(t, "Join(that)", Join(0, split), []uint64{1, 2, 3, 4, 5})
}

func TestExamplesOfProductsAndPoints(t *testing.T) {
	p, e := Mul(0, []uint64{1, 1}, []uint64{1, 96})
	wantList(t, "Mul((1, 1), (1, 96))", p, []uint64{1, 0, 96})
	want(t, "the error of Mul", e, api.OK)
	q, r, e := Divide(0, []uint64{96, 0, 1}, []uint64{96, 1})
	wantList(t, "the quotient of (96, 0, 1) and (96, 1)", q, []uint64{1, 1})
	wantList(t, "the remainder of (96, 0, 1) and (96, 1)", r, nil)
	want(t, "the error of Divide", e, api.OK)
	p, e = Through(0, []uint64{1, 2, 3}, []uint64{1, 4, 9})
	wantList(t, "Through((1, 2, 3), (1, 4, 9))", p, []uint64{0, 0, 1})
	want(t, "the error of Through", e, api.OK)
	p, e = Through(0, []uint64{1, 98}, []uint64{1, 1})
	wantNone(t, "Through((1, 98), (1, 1))", p, e, api.ErrDuplicate)
	p, e = Vanish(0, []uint64{1, 2})
	wantList(t, "Vanish((1, 2))", p, []uint64{2, 94, 1})
	want(t, "the error of Vanish", e, api.OK)
	p, e = Vanish(0, nil)
	wantList(t, "Vanish(none)", p, []uint64{1})
	want(t, "the error of Vanish(none)", e, api.OK)
	q, r, e = Divide(0, []uint64{1}, nil)
	wantNone(t, "the quotient of (1) and none", q, e, api.ErrRange)
	wantNone(t, "the remainder of (1) and none", r, e, api.ErrRange)
	p, e = Mul(4, []uint64{1}, []uint64{1})
	wantNone(t, "Mul in the field 4", p, e, api.ErrArg)
}
