package transform

import (
	"math"
	"math/rand"
	"slices"
	"testing"

	"attestor/api"
)

// P4.5

func TestCoefficientsUndoesValues(t *testing.T) {
	r := rand.New(rand.NewSource(51))
	for f := range primes {
		for k := range exponents[f] + 1 {
			for _, shift := range shifts(f)[:5] {
				for _, p := range [][]uint64{nil, {7}, some(r, f, 1<<k), some(r, f, 1<<k/2+1), full(r, f, 1<<k)} {
					if len(p) > 1<<k {
						continue
					}
					v, e := Values(f, k, shift, p)
					want(t, "the error of Values", e, api.OK)
					back, e := Coefficients(f, shift, v)
					wantOK(t, "Coefficients of Values", back, e, elements(f, long(p, 1<<k)))
				}
			}
		}
	}
}

func TestValuesUndoesCoefficients(t *testing.T) {
	r := rand.New(rand.NewSource(52))
	for f := range primes {
		for k := range exponents[f] + 1 {
			for _, shift := range shifts(f)[:5] {
				for _, v := range [][]uint64{make([]uint64, 1<<k), some(r, f, 1<<k), full(r, f, 1<<k)} {
					p, e := Coefficients(f, shift, v)
					want(t, "the error of Coefficients", e, api.OK)
					back, e := Values(f, k, shift, p)
					wantOK(t, "Values of Coefficients", back, e, elements(f, v))
				}
			}
		}
	}
}

// plus returns a + s b at each place.
func plus(f int, a []uint64, s uint64, b []uint64) []uint64 {
	out := make([]uint64, max(len(a), len(b)))
	for i := range out {
		if i < len(a) {
			out[i] = a[i] % primes[f]
		}
		if i < len(b) {
			out[i] = (out[i] + s%primes[f]*(b[i]%primes[f])) % primes[f]
		}
	}
	return out
}

func TestValuesRespectsSumsAndMultiples(t *testing.T) {
	r := rand.New(rand.NewSource(53))
	for f, prime := range primes {
		for k := range min(10, exponents[f]) + 1 {
			for _, s := range []uint64{0, 1, 5, prime - 1, prime, most} {
				shift := shifts(f)[r.Intn(10)]
				a, b := some(r, f, 1<<k), some(r, f, 1<<k)
				v, _ := Values(f, k, shift, a)
				w, _ := Values(f, k, shift, b)
				sum, e := Values(f, k, shift, plus(f, a, s, b))
				wantOK(t, "Values of a + s b", sum, e, plus(f, v, s, w))
				p, _ := Coefficients(f, shift, a)
				q, _ := Coefficients(f, shift, b)
				sum, e = Coefficients(f, shift, plus(f, a, s, b))
				wantOK(t, "Coefficients of a + s b", sum, e, plus(f, p, s, q))
			}
		}
	}
}

func TestValuesRespectsProducts(t *testing.T) {
	r := rand.New(rand.NewSource(54))
	for f, prime := range primes {
		for k := range exponents[f] + 1 {
			shift, n := shifts(f)[r.Intn(10)], 1+r.Intn(1<<k)
			a, b := some(r, f, n), some(r, f, 1<<k+1-n)
			product, e := Multiply(f, a, b)
			want(t, "the error of Multiply", e, api.OK)
			v, e1 := Values(f, k, shift, a)
			w, e2 := Values(f, k, shift, b)
			want(t, "the errors of Values", [2]api.Errno{e1, e2}, [2]api.Errno{})
			for i := range v {
				v[i] = v[i] * w[i] % prime
			}
			got, e := Values(f, k, shift, product)
			wantOK(t, "Values of a product", got, e, v)
		}
	}
}

// TestWidenOfWiden: what is widened keeps its polynomial.
func TestWidenOfWiden(t *testing.T) {
	r := rand.New(rand.NewSource(55))
	for f := range primes {
		for k := range exponents[f] + 1 {
			v := some(r, f, 1<<k)
			p, e := Coefficients(f, 1, v)
			want(t, "the error of Coefficients", e, api.OK)
			for b := range min(3, exponents[f]-k) + 1 {
				wide, e := Widen(f, v, b)
				want(t, "the error of Widen", e, api.OK)
				back, e := Coefficients(f, generators[f], wide)
				wantOK(t, "Coefficients of Widen", back, e, long(p, 1<<(k+b)))
			}
		}
	}
}

// P1

// answers returns what all functions say of some arguments, and with each list its error.
func answers(f, k int, x uint64, a, b []uint64) [][]uint64 {
	v, e1 := Values(f, k, x, a)
	p, e2 := Coefficients(f, x, a)
	product, e3 := Multiply(f, a, b)
	w, e4 := Widen(f, b, k)
	return [][]uint64{v, p, product, w, {uint64(e1), uint64(e2), uint64(e3), uint64(e4)}}
}

func TestAllArgumentsHaveAnAnswerThatStays(t *testing.T) {
	ks := []int{math.MinInt, -64, -1, 0, 1, 2, 3, 5, 6, 8, 9, 18, 19, 63, 64, math.MaxInt}
	for _, f := range append([]int{0, 1, 2, 3}, noFields...) {
		all := append(lists(f&3, 3), []uint64{1, 2, 3}, make([]uint64, 33), slices.Repeat([]uint64{most}, 40))
		for i, a := range all {
			for j, b := range all {
				k, x := ks[(i+j)%len(ks)], append(shifts(f&3), zeros(f&3)...)[(3*i+j)%14]
				once, again := answers(f, k, x, a, b), answers(f, k, x, slices.Clone(a), roomy(b))
				want(t, "whether the second answer is the first one", slices.EqualFunc(once, again, slices.Equal), true)
				for n, l := range once[:4] {
					if once[4][n] != uint64(api.OK) {
						want(t, "the length of a result beside an error", len(l), 0)
					} else {
						wantList(t, "a result as elements", l, elements(f&3, l))
					}
				}
				if f < 0 || f > 3 {
					wantList(t, "the errors without a field", once[4], slices.Repeat([]uint64{uint64(api.ErrArg)}, 4))
				}
			}
		}
	}
}

// Rule 3

func TestResultsShareNoMemory(t *testing.T) {
	for f := range primes {
		for k := range 4 {
			for _, l := range lists(f, k) {
				a, b := roomy(long(l, 1<<k)), roomy(l)
				both := [][]uint64{a, b}
				wantApart(t, "Values", both, func() [][]uint64 {
					v, _ := Values(f, k, 1, a)
					w, _ := Values(f, k, 1, b)
					return [][]uint64{v, w}
				})
				wantApart(t, "Coefficients", both, func() [][]uint64 {
					p, _ := Coefficients(f, 1, a)
					q, _ := Coefficients(f, 1, a)
					return [][]uint64{p, q}
				})
				wantApart(t, "Multiply", both, func() [][]uint64 {
					p, _ := Multiply(f, a, b)
					square, _ := Multiply(f, a, a)
					same, _ := Multiply(f, a, []uint64{1})
					return [][]uint64{p, square, same}
				})
				wantApart(t, "Widen", both, func() [][]uint64 {
					v, _ := Widen(f, a, 0)
					w, _ := Widen(f, a, 1)
					return [][]uint64{v, w}
				})
			}
		}
	}
}

// The examples of the chapter

func TestExamples(t *testing.T) {
	v, e := Values(0, 2, 1, []uint64{0, 1})
	wantOK(t, "Values(k 2, shift 1, (0, 1))", v, e, []uint64{1, 22, 96, 75})
	v, e = Values(0, 1, 5, []uint64{1, 2})
	wantOK(t, "Values(k 1, shift 5, (1, 2))", v, e, []uint64{11, 88})
	p, e := Coefficients(0, 5, []uint64{11, 88})
	wantOK(t, "Coefficients(shift 5, (11, 88))", p, e, []uint64{1, 2})
	p, e = Coefficients(0, 1, []uint64{7})
	wantOK(t, "Coefficients(shift 1, (7))", p, e, []uint64{7})
	v, e = Values(0, 0, 1, []uint64{1, 1})
	wantNone(t, "Values(k 0, shift 1, (1, 1))", v, e, api.ErrLimit)
	v, e = Values(0, 6, 1, nil)
	wantNone(t, "Values(k 6, shift 1, none)", v, e, api.ErrRange)
	v, e = Values(0, 1, 97, nil)
	wantNone(t, "Values(k 1, shift 97, none)", v, e, api.ErrArg)
	p, e = Multiply(0, []uint64{1, 1}, []uint64{1, 96})
	wantOK(t, "Multiply((1, 1), (1, 96))", p, e, []uint64{1, 0, 96})
	v, e = Widen(0, []uint64{1, 96}, 1)
	wantOK(t, "Widen((1, 96), 1)", v, e, []uint64{5, 13, 92, 84})
	v, e = Widen(0, []uint64{1, 96}, 0)
	wantOK(t, "Widen((1, 96), 0)", v, e, []uint64{5, 92})
	v, e = Widen(0, []uint64{1, 2, 3}, 0)
	wantNone(t, "Widen((1, 2, 3), 0)", v, e, api.ErrRange)
}
