package poly

import (
	"math/rand"
	"slices"
	"testing"

	"attestor/api"
)

// P3.3

func TestMul(t *testing.T) {
	for f := range primes {
		for _, a := range lists(f) {
			for _, b := range lists(f) {
				p, e := Mul(f, a, b)
				wantList(t, "Mul", p, times(f, a, b))
				want(t, "the error of Mul", e, api.OK)
			}
		}
	}
}

func TestMulOfEveryLength(t *testing.T) {
	r := rand.New(rand.NewSource(33))
	for f := range primes {
		for n := range 50 {
			for _, m := range []int{1, 2, 15, 16, 17, 18, 19, 20, 33, 300} {
				a, b := some(r, f, n), some(r, f, m)
				p, e := Mul(f, a, b)
				wantList(t, "Mul", p, times(f, a, b))
				want(t, "the error of Mul", e, api.OK)
			}
		}
	}
}

// TestMulOfTheGreatestElements: the product of two coefficients P - 1 is 1, so that a coefficient of the product is the number of its terms. Sums that wrap around are found by this.
func TestMulOfTheGreatestElements(t *testing.T) {
	for f, prime := range primes {
		for _, n := range []int{1, 16, 17, 18, 19, 20, 100, 3000} {
			p, e := Mul(f, slices.Repeat([]uint64{prime - 1}, n), slices.Repeat([]uint64{2*prime - 1}, n+5))
			want(t, "the error of Mul", e, api.OK)
			wanted := make([]uint64, 2*n+4)
			for k := range wanted {
				wanted[k] = uint64(min(k+1, n, 2*n+4-k)) % prime
			}
			wantList(t, "Mul", p, plain(f, wanted))
		}
	}
}

func TestMulAtTheLimit(t *testing.T) {
	r := rand.New(rand.NewSource(34))
	for f := range primes {
		for _, c := range []struct {
			a, b   int
			wanted api.Errno
		}{
			{1, 32767, api.OK}, {1, 32768, api.OK}, {1, 32769, api.ErrLimit}, {2, 32767, api.OK}, {2, 32768, api.ErrLimit},
			{100, 32669, api.OK}, {100, 32670, api.ErrLimit}, {16384, 16386, api.ErrLimit}, {32768, 32768, api.ErrLimit}, {1, 70000, api.ErrLimit},
		} {
			a, b := append(some(r, f, c.a-1), 1), append(some(r, f, c.b-1), primes[f]-1)
			for range 2 { // in both orders, and with zeros at the end, which do not count
				a, b = append(b, 0, primes[f]), append(a, make([]uint64, 40000)...)
				p, e := Mul(f, a, b)
				want(t, "the error of Mul", e, c.wanted)
				if c.wanted != api.OK {
					wantNone(t, "Mul", p, e, c.wanted)
					continue
				}
				want(t, "the length of Mul", len(p), c.a+c.b-1)
				for _, x := range []uint64{1, 2, 77} {
					want(t, "the value of Mul", value(f, p, x), value(f, a, x)*value(f, b, x)%primes[f])
				}
			}
		}
		long := some(r, f, 100000)
		for _, zero := range [][]uint64{nil, {}, {0}, {0, primes[f]}} {
			p, e := Mul(f, long, zero)
			wantNone(t, "Mul of a long list and 0", p, e, api.OK)
			p, e = Mul(f, zero, long)
			wantNone(t, "Mul of 0 and a long list", p, e, api.OK)
		}
	}
}

func TestMulOfTheLongestLists(t *testing.T) {
	const n = 16384
	p, e := Mul(3, slices.Repeat([]uint64{primes[3] - 1}, n), slices.Repeat([]uint64{primes[3] - 1}, n+1))
	want(t, "the error of Mul", e, api.OK)
	want(t, "the length of Mul", len(p), 32768)
	for k, x := range p {
		want(t, "a coefficient of Mul", x, uint64(min(k+1, n, 2*n-k)))
	}
}

// checkDivide checks what Divide promises; there are no two such quotients and remainders.
func checkDivide(t *testing.T, f int, a, b []uint64) {
	t.Helper()
	q, r, e := Divide(f, a, b)
	divisor := plain(f, b)
	if len(divisor) == 0 {
		wantNone(t, "the quotient by 0", q, e, api.ErrRange)
		wantNone(t, "the remainder by 0", r, e, api.ErrRange)
		return
	}
	want(t, "the error of Divide", e, api.OK)
	wantNormal(t, "the quotient", f, q)
	wantNormal(t, "the remainder", f, r)
	want(t, "whether the remainder is shorter than the divisor", len(r) < len(divisor), true)
	wantList(t, "q b + r", plus(f, times(f, q, divisor), 1, r), plain(f, a))
}

func TestDivide(t *testing.T) {
	for f := range primes {
		for _, a := range lists(f) {
			for _, b := range lists(f) {
				checkDivide(t, f, a, b)
			}
		}
	}
}

func TestDivideOfEveryLength(t *testing.T) {
	r := rand.New(rand.NewSource(35))
	for f := range primes {
		for n := range 60 {
			for _, m := range []int{1, 2, 3, 18, 40, 58, 59, 60, 61} {
				a, b := some(r, f, n), some(r, f, m)
				checkDivide(t, f, a, b)
				checkDivide(t, f, times(f, a, b), b) // a remainder 0
			}
		}
		checkDivide(t, f, slices.Repeat([]uint64{primes[f] - 1}, 500), slices.Repeat([]uint64{primes[f] - 1}, 200))
	}
}

func TestDivideByALongerPolynomial(t *testing.T) {
	for f, prime := range primes {
		q, r, e := Divide(f, []uint64{prime + 1, 2, prime}, []uint64{0, 0, 1})
		wantList(t, "the quotient", q, nil)
		wantList(t, "the remainder", r, []uint64{1, 2})
		want(t, "the error", e, api.OK)
		q, r, e = Divide(f, nil, []uint64{5})
		wantList(t, "the quotient of 0", q, nil)
		wantList(t, "the remainder of 0", r, nil)
		want(t, "the error", e, api.OK)
		// A divisor that is longer only by zeros is not longer.
		q, r, e = Divide(f, []uint64{1, 2}, []uint64{2, prime, 0, 0})
		wantList(t, "the quotient by 2", q, []uint64{(prime + 1) / 2, 1})
		wantList(t, "the remainder by 2", r, nil)
		want(t, "the error", e, api.OK)
	}
}

// TestDivideHasNoLimit: unlike a product, a quotient is never longer than what is divided.
func TestDivideHasNoLimit(t *testing.T) {
	r := rand.New(rand.NewSource(36))
	for f, prime := range primes {
		a := append(some(r, f, 70000), 1)
		q, rest, e := Divide(f, a, []uint64{prime - 5, 1})
		want(t, "the error of Divide", e, api.OK)
		want(t, "the length of the quotient", len(q), 70000)
		wantList(t, "the remainder by X - 5", rest, plain(f, []uint64{value(f, a, 5)}))
		b := append(some(r, f, 69000), 2)
		q, rest, e = Divide(f, a[:len(a)-1], b)
		want(t, "the error of Divide by a long list", e, api.OK)
		for _, x := range []uint64{1, 2, 77} {
			v := value(f, q, x)*value(f, b, x) + value(f, rest, x)
			want(t, "the value of q b + r", v%prime, value(f, a[:len(a)-1], x))
		}
		want(t, "whether the remainder is shorter than the divisor", len(rest) < len(b), true)
	}
}

func TestErrorsOfProductsInTheirOrder(t *testing.T) {
	long := slices.Repeat([]uint64{1}, 32768)
	for _, f := range noFields {
		for _, b := range [][]uint64{nil, {0}, {1}, {1, 2}, long} {
			p, e := Mul(f, long, b)
			wantNone(t, "Mul", p, e, api.ErrArg)
			q, r, e := Divide(f, long, b)
			wantNone(t, "the quotient", q, e, api.ErrArg)
			wantNone(t, "the remainder", r, e, api.ErrArg)
		}
		p, e := Mul(f, nil, nil)
		wantNone(t, "Mul of 0 and 0", p, e, api.ErrArg)
	}
	for f, prime := range primes {
		for _, zero := range [][]uint64{nil, {}, {0}, {prime}, {0, 2 * prime, 0}} {
			for _, a := range [][]uint64{nil, {0}, {1}, {1, 2, 3}, long} {
				q, r, e := Divide(f, a, zero)
				wantNone(t, "the quotient by 0", q, e, api.ErrRange)
				wantNone(t, "the remainder by 0", r, e, api.ErrRange)
			}
		}
	}
}
