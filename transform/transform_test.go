package transform

import (
	"math"
	"math/bits"
	"math/rand"
	"slices"
	"testing"

	"attestor/api"
)

// small is the greatest k up to which all points of a coset are compared.
const small = 6

// P4.1

func TestValues(t *testing.T) {
	for f := range primes {
		for k := range min(small, exponents[f]) + 1 {
			for _, shift := range shifts(f) {
				for _, p := range lists(f, k) {
					v, e := Values(f, k, shift, p)
					wantOK(t, "Values", v, e, values(f, k, shift, p))
				}
			}
		}
	}
}

func TestValuesAtAsManyPointsAsPossible(t *testing.T) {
	r := rand.New(rand.NewSource(41))
	for f := range primes {
		for k := range exponents[f] + 1 {
			shift := shifts(f)[r.Intn(10)]
			for _, p := range [][]uint64{nil, {primes[f] + 9}, some(r, f, min(300, 1<<k)), full(r, f, 1<<k)} {
				v, e := Values(f, k, shift, p)
				want(t, "the error of Values", e, api.OK)
				wantValues(t, "Values", f, k, shift, p, v)
			}
		}
	}
}

func TestValuesOfConstants(t *testing.T) {
	for f, prime := range primes {
		for k := range exponents[f] + 1 {
			for _, c := range []uint64{1, 9, prime - 1, prime + 2, 2 * prime, most} {
				v, e := Values(f, k, 7, []uint64{c})
				wantOK(t, "Values of a constant", v, e, slices.Repeat([]uint64{c % prime}, 1<<k))
			}
			for _, zero := range [][]uint64{nil, {}, {0}, {prime, 0, 3 * prime}, make([]uint64, 1000)} {
				v, e := Values(f, k, 7, zero)
				wantOK(t, "Values of 0", v, e, make([]uint64, 1<<k))
			}
		}
	}
}

// TestValuesOfX: the values of X are the points themselves, which are different.
func TestValuesOfX(t *testing.T) {
	for f := range primes {
		for k := 1; k <= exponents[f]; k++ {
			v, e := Values(f, k, 6, []uint64{0, 1})
			want(t, "the error of Values of X", e, api.OK)
			want(t, "the number of points", len(v), 1<<k)
			want(t, "the first point", v[0], 6)
			seen := map[uint64]bool{}
			for i, x := range v {
				seen[x] = true
				if i > 0 && i%(1<<k/4+1) == 0 {
					want(t, "a point", x, point(f, k, 6, i))
				}
			}
			want(t, "the number of different points", len(seen), 1<<k)
		}
	}
}

func TestTheLimitOfValues(t *testing.T) {
	r := rand.New(rand.NewSource(42))
	for f, prime := range primes {
		for k := range exponents[f] + 1 {
			p := full(r, f, 1<<k)
			v, e := Values(f, k, 4, slices.Concat(p, []uint64{0, prime, 0, 5 * prime, 0})) // zeros at the end do not count
			want(t, "the error of Values with zeros at the end", e, api.OK)
			wantValues(t, "Values with zeros at the end", f, k, 4, p, v)
			for _, more := range [][]uint64{{1}, {prime - 1}, {0, 1}, {most}, {0, 0, 0, 2, 0}, full(r, f, 1<<k)} {
				v, e := Values(f, k, 4, slices.Concat(p, more))
				if len(plain(f, more)) > 0 {
					wantNone(t, "Values of too many coefficients", v, e, api.ErrLimit)
				}
			}
			v, e = Values(f, k, 1, append(make([]uint64, 1<<k), 1)) // X^(2^k) is 1 at all points, but too long
			wantNone(t, "Values of a high power of X", v, e, api.ErrLimit)
		}
	}
}

// noExponents returns numbers that are not from 0 to g.
func noExponents(f int) []int {
	g := exponents[f]
	return []int{math.MinInt, math.MinInt32, -64, -63, -2, -1, g + 1, g + 2, 19, 20, 23, 24, 31, 32, 63, 64, 65, 256, 1 << 32, 1<<32 + 1, math.MaxInt32, math.MaxInt}
}

func TestErrorsOfValuesInTheirOrder(t *testing.T) {
	for f := range primes {
		tooMany := slices.Repeat([]uint64{1}, 1<<exponents[f]+1)
		for _, p := range [][]uint64{nil, {1}, {1, 2, 3}, tooMany} {
			for _, k := range noExponents(f) {
				for _, shift := range shifts(f) {
					v, e := Values(f, k, shift, p)
					wantNone(t, "Values without a coset", v, e, api.ErrRange)
				}
				for _, zero := range zeros(f) {
					v, e := Values(f, k, zero, p)
					wantNone(t, "Values without a coset or a shift", v, e, api.ErrArg)
				}
			}
			for k := range exponents[f] + 1 {
				for _, zero := range zeros(f) {
					v, e := Values(f, k, zero, p)
					wantNone(t, "Values without a shift", v, e, api.ErrArg)
				}
			}
		}
	}
	for _, f := range noFields {
		for _, k := range []int{math.MinInt, -1, 0, 1, 5, 18, 19, 64, math.MaxInt} {
			for _, shift := range []uint64{0, 1, 5, 97, most} {
				for _, p := range [][]uint64{nil, {1}, {1, 2, 3}} {
					v, e := Values(f, k, shift, p)
					wantNone(t, "Values without a field", v, e, api.ErrArg)
				}
			}
		}
	}
}

// P4.2

func TestCoefficients(t *testing.T) {
	for f := range primes {
		for k := range min(small, exponents[f]) + 1 {
			for _, shift := range shifts(f) {
				for _, l := range lists(f, k) {
					v := long(l, 1<<k)
					p, e := Coefficients(f, shift, v)
					want(t, "the error of Coefficients", e, api.OK)
					want(t, "the length of Coefficients", len(p), len(v))
					wantList(t, "Coefficients as elements", p, elements(f, p))
					wantList(t, "the values of Coefficients", values(f, k, shift, p), elements(f, v))
				}
			}
		}
	}
}

func TestCoefficientsOfAsManyValuesAsPossible(t *testing.T) {
	r := rand.New(rand.NewSource(43))
	for f := range primes {
		for k := range exponents[f] + 1 {
			shift, v := shifts(f)[r.Intn(10)], some(r, f, 1<<k)
			p, e := Coefficients(f, shift, v)
			want(t, "the error of Coefficients", e, api.OK)
			wantList(t, "Coefficients as elements", p, elements(f, p))
			wantValues(t, "the values of Coefficients", f, k, shift, p, elements(f, v))
		}
	}
}

// TestCoefficientsHaveZerosAtTheEnd: unlike other polynomials, they are not normal.
func TestCoefficientsHaveZerosAtTheEnd(t *testing.T) {
	for f, prime := range primes {
		for k := range exponents[f] + 1 {
			for _, c := range []uint64{0, 1, 7, prime, prime + 3, most} {
				wanted := make([]uint64, 1<<k)
				wanted[0] = c % prime
				p, e := Coefficients(f, 7, slices.Repeat([]uint64{c}, 1<<k))
				wantOK(t, "Coefficients of a constant", p, e, wanted)
			}
		}
	}
}

func TestErrorsOfCoefficientsInTheirOrder(t *testing.T) {
	for f := range primes {
		g := exponents[f]
		lengths := []int{1<<g - 1, 1<<g + 1, 3 << (g - 1), 2 << g, 4 << g, 1<<18 + 1, 1 << 19}
		for n := range 300 {
			if bits.OnesCount(uint(n)) != 1 || n > 1<<g {
				lengths = append(lengths, n)
			}
		}
		for _, n := range lengths {
			v := make([]uint64, n)
			for _, shift := range shifts(f) {
				p, e := Coefficients(f, shift, v)
				wantNone(t, "Coefficients of so many values", p, e, api.ErrRange)
			}
			for _, zero := range zeros(f) {
				p, e := Coefficients(f, zero, v)
				wantNone(t, "Coefficients of so many values without a shift", p, e, api.ErrArg)
			}
		}
		p, e := Coefficients(f, 3, nil)
		wantNone(t, "Coefficients of no values", p, e, api.ErrRange)
		for k := range g + 1 {
			for _, zero := range zeros(f) {
				p, e := Coefficients(f, zero, make([]uint64, 1<<k))
				wantNone(t, "Coefficients without a shift", p, e, api.ErrArg)
			}
		}
	}
	for _, f := range noFields {
		for _, v := range [][]uint64{nil, {}, {1}, {1, 2}, {1, 2, 3}, make([]uint64, 64), make([]uint64, 1<<19)} {
			for _, shift := range []uint64{0, 1, 5, 97, most} {
				p, e := Coefficients(f, shift, v)
				wantNone(t, "Coefficients without a field", p, e, api.ErrArg)
			}
		}
	}
}

// P4.3

func TestMultiply(t *testing.T) {
	for f := range primes {
		for k := range min(small, exponents[f]) + 1 {
			for _, a := range lists(f, k) {
				for _, b := range lists(f, max(0, k-1)) {
					p, e := Multiply(f, a, b)
					q, e2 := Multiply(f, b, a)
					wanted := times(f, a, b)
					if len(wanted) > 1<<exponents[f] {
						wantNone(t, "Multiply", p, e, api.ErrRange)
						wantNone(t, "Multiply in the other order", q, e2, api.ErrRange)
						continue
					}
					wantOK(t, "Multiply", p, e, wanted)
					wantOK(t, "Multiply in the other order", q, e2, wanted)
				}
			}
		}
	}
}

func TestMultiplyOfEveryLength(t *testing.T) {
	r := rand.New(rand.NewSource(44))
	for f := range primes {
		for n := 1; n <= min(70, 1<<exponents[f]); n++ {
			for _, m := range []int{1, 2, 3, 7, 16, 17, 31, 32, 33, 64} {
				a, b := full(r, f, n), full(r, f, m)
				p, e := Multiply(f, a, b)
				if n+m-1 > 1<<exponents[f] {
					wantNone(t, "Multiply", p, e, api.ErrRange)
					continue
				}
				want(t, "the length of Multiply", len(p), n+m-1)
				wantOK(t, "Multiply", p, e, times(f, a, b))
			}
		}
	}
}

func TestTheLimitOfMultiply(t *testing.T) {
	r := rand.New(rand.NewSource(45))
	for f, prime := range primes {
		size := 1 << exponents[f]
		for _, n := range []int{1, 2, 5, size / 4, size / 2, size/2 + 1, size - 1, size} {
			a, b := full(r, f, n), full(r, f, size+1-n)
			p, e := Multiply(f, slices.Concat(a, []uint64{0, prime, 0}), slices.Concat(b, make([]uint64, 9))) // zeros at the end do not count
			want(t, "the error of Multiply", e, api.OK)
			want(t, "the length of Multiply", len(p), size)
			for _, x := range []uint64{0, 1, 2, 3, prime - 1, 77} {
				want(t, "a value of Multiply", value(f, p, x), value(f, a, x)*value(f, b, x)%prime)
			}
			for _, more := range []int{1, 2, size} {
				p, e = Multiply(f, a, append(b, full(r, f, more)...))
				wantNone(t, "Multiply of too many coefficients", p, e, api.ErrRange)
				p, e = Multiply(f, append(b, full(r, f, more)...), a)
				wantNone(t, "Multiply of too many coefficients", p, e, api.ErrRange)
			}
		}
	}
}

// TestMultiplyByZero: the product 0 has no coefficients, however many the other polynomial has.
func TestMultiplyByZero(t *testing.T) {
	for f, prime := range primes {
		tooMany := slices.Repeat([]uint64{1}, 1<<exponents[f]+1)
		for _, zero := range [][]uint64{nil, {}, {0}, {prime}, {0, 2 * prime, 0}, make([]uint64, 2<<exponents[f])} {
			for _, a := range [][]uint64{nil, {0}, {1}, {1, 2, 3}, tooMany} {
				p, e := Multiply(f, a, zero)
				wantOK(t, "Multiply by 0", p, e, nil)
				p, e = Multiply(f, zero, a)
				wantOK(t, "Multiply of 0", p, e, nil)
			}
		}
		p, e := Multiply(f, tooMany, []uint64{prime + 1})
		wantNone(t, "Multiply by 1 of too many coefficients", p, e, api.ErrRange)
		p, e = Multiply(f, tooMany[1:], []uint64{prime + 1})
		wantOK(t, "Multiply by 1", p, e, tooMany[1:])
	}
}

func TestMultiplyWithoutAField(t *testing.T) {
	for _, f := range noFields {
		for _, a := range [][]uint64{nil, {0}, {1}, {1, 2, 3}, make([]uint64, 1<<19), slices.Repeat([]uint64{1}, 1<<19)} {
			for _, b := range [][]uint64{nil, {0}, {1}, {1, 2, 3}} {
				p, e := Multiply(f, a, b)
				wantNone(t, "Multiply without a field", p, e, api.ErrArg)
			}
		}
	}
}

// P4.4

func TestWiden(t *testing.T) {
	for f := range primes {
		for k := range min(small, exponents[f]) + 1 {
			for b := range min(small, exponents[f]) - k + 1 {
				for _, p := range lists(f, k) {
					v, e := Widen(f, values(f, k, 1, p), b)
					wantOK(t, "Widen", v, e, values(f, k+b, generators[f], p))
				}
			}
		}
	}
}

func TestWidenCountsModuloP(t *testing.T) {
	for f, prime := range primes {
		for k := range 4 {
			for _, l := range lists(f, k) {
				v := long(l, 1<<k)
				for b := range 3 {
					got, e := Widen(f, v, b)
					again, e2 := Widen(f, elements(f, v), b)
					wantOK(t, "Widen", got, e, again)
					want(t, "the error of Widen", e2, api.OK)
				}
			}
		}
		v, e := Widen(f, []uint64{most, most}, 1)
		wantOK(t, "Widen of a constant", v, e, slices.Repeat([]uint64{most % prime}, 4))
	}
}

func TestWidenToAsManyPointsAsPossible(t *testing.T) {
	r := rand.New(rand.NewSource(46))
	for f := range primes {
		g := exponents[f]
		for k := range g + 1 {
			p := some(r, f, min(1<<k, 40))
			narrow := make([]uint64, 1<<k)
			for i := range narrow {
				narrow[i] = value(f, p, point(f, k, 1, i))
			}
			for _, b := range []int{0, (g - k) / 2, g - k} {
				v, e := Widen(f, narrow, b)
				want(t, "the error of Widen", e, api.OK)
				wantValues(t, "Widen", f, k+b, generators[f], p, v)
			}
		}
	}
}

func TestErrorsOfWidenInTheirOrder(t *testing.T) {
	for f := range primes {
		g := exponents[f]
		for k := range g + 1 {
			for _, b := range []int{math.MinInt, math.MinInt32, -64, -g, -k - 1, -2, -1, g - k + 1, g - k + 2, g + 1, 19, 63, 64, 1 << 32, math.MaxInt - k, math.MaxInt - 1, math.MaxInt} {
				v, e := Widen(f, make([]uint64, 1<<k), b)
				wantNone(t, "Widen by so much", v, e, api.ErrRange)
			}
		}
		for _, n := range []int{0, 3, 5, 6, 7, 12, 31, 33, 1<<g - 1, 1<<g + 1, 2 << g, 4 << g} {
			for _, b := range []int{math.MinInt, -3, -2, -1, 0, 1, 2, 64, math.MaxInt} {
				v, e := Widen(f, make([]uint64, n), b)
				wantNone(t, "Widen of so many values", v, e, api.ErrRange)
			}
		}
		v, e := Widen(f, nil, 0)
		wantNone(t, "Widen of no values", v, e, api.ErrRange)
	}
	for _, f := range noFields {
		for _, l := range [][]uint64{nil, {1}, {1, 2}, {1, 2, 3}, make([]uint64, 64)} {
			for _, b := range []int{math.MinInt, -1, 0, 1, 19, math.MaxInt} {
				v, e := Widen(f, l, b)
				wantNone(t, "Widen without a field", v, e, api.ErrArg)
			}
		}
	}
}
