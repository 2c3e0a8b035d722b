package gap

import (
	"math"
	"math/big"
	"math/rand"
	"slices"
	"testing"

	"attestor/api"
)

// The numbers of the fields and the exponents of their greatest sizes, so that the tests compute without the program.
var (
	primes     = []uint64{97, 257, 12289, 998244353}
	generators = []uint64{5, 3, 11, 3}
	exponents  = []int{5, 8, 12, 18}
)

// noFields are numbers that are those of no field.
var noFields = []int{-1, -2, -4, 4, 5, 7, 8, 256, math.MinInt, math.MaxInt, math.MinInt32, math.MaxInt32}

const most = math.MaxUint64

// power returns x^n, without the program.
func power(f int, x, n uint64) uint64 {
	out := uint64(1)
	for x %= primes[f]; n > 0; n >>= 1 {
		if n&1 == 1 {
			out = out * x % primes[f]
		}
		x = x * x % primes[f]
	}
	return out
}

// inverse returns the inverse of an element that is not 0, without the program.
func inverse(f int, x uint64) uint64 { return power(f, x, primes[f]-2) }

// value returns the value at x, term by term, without the program.
func value(f int, p []uint64, x uint64) uint64 {
	sum, xs := uint64(0), uint64(1)
	for _, c := range p {
		sum = (sum + c%primes[f]*xs) % primes[f]
		xs = xs * (x % primes[f]) % primes[f]
	}
	return sum
}

// withRoots returns the product of c and all X - x, without the program.
func withRoots(f int, c uint64, xs ...uint64) []uint64 {
	out := []uint64{c % primes[f]}
	for _, x := range xs {
		next := make([]uint64, len(out)+1)
		for i, y := range out {
			next[i] = (next[i] + (primes[f]-x%primes[f])*y) % primes[f]
			next[i+1] = y
		}
		out = next
	}
	return out
}

// plus returns the sum of two polynomials, without the program.
func plus(f int, a, b []uint64) []uint64 {
	out := make([]uint64, max(len(a), len(b)))
	for i := range out {
		if i < len(a) {
			out[i] = a[i] % primes[f]
		}
		if i < len(b) {
			out[i] = (out[i] + b[i]%primes[f]) % primes[f]
		}
	}
	return out
}

// point returns the point with the number i of a valid domain, without the program.
func point(d api.Domain, i int) uint64 {
	exponent := (primes[d.Field] - 1) >> d.K * uint64(i)
	return power(d.Field, generators[d.Field], exponent) * d.Shift % primes[d.Field]
}

// pieces returns the word that has in the fibre i the local polynomial polys[i], without the program.
func pieces(d api.Domain, polys [][]uint64) []uint64 {
	out := make([]uint64, 1<<d.K)
	for i := range out {
		out[i] = value(d.Field, polys[i%len(polys)], point(d, i))
	}
	return out
}

// wordOf returns the word of a polynomial, without the program.
func wordOf(d api.Domain, p []uint64) []uint64 { return pieces(d, [][]uint64{p}) }

// localOf returns the coefficients of the local polynomial in the fibre i, without the program: the sum of y / x^j over the points x of a fibre and the values y there is eight times the coefficient j.
func localOf(d api.Domain, v []uint64, i int) [8]uint64 {
	var out [8]uint64
	for j := range out {
		for at := i; at < len(v); at += len(v) / 8 {
			x := inverse(d.Field, power(d.Field, point(d, at), uint64(j)))
			out[j] = (out[j] + v[at]%primes[d.Field]*x) % primes[d.Field]
		}
		out[j] = out[j] * inverse(d.Field, 8) % primes[d.Field]
	}
	return out
}

// agreement returns in how many fibres the local polynomials of the columns are the same, without the program.
func agreement(d api.Domain, cols ...[]uint64) int {
	n, best := 1<<d.K/8, 0
	all := make([][][8]uint64, n)
	for i := range all {
		for _, v := range cols {
			all[i] = append(all[i], localOf(d, v, i))
		}
	}
	for i := range all {
		same := 0
		for k := range all {
			if slices.Equal(all[i], all[k]) {
				same++
			}
		}
		best = max(best, same)
	}
	return best
}

// commonest returns how often the number that stands most often in a list stands in it, without the program.
func commonest(l []uint64) int {
	best := 0
	for _, x := range l {
		same := 0
		for _, y := range l {
			if x == y {
				same++
			}
		}
		best = max(best, same)
	}
	return best
}

// through returns the value at z of the polynomial with the values ys at different points, by Lagrange's sum, without the program.
func through(f int, xs, ys []uint64, z uint64) uint64 {
	p, sum := primes[f], uint64(0)
	for j, y := range ys {
		above, below := y%p, uint64(1)
		for k, x := range xs {
			if k != j {
				above = above * (z%p + p - x) % p
				below = below * (xs[j] + p - x) % p
			}
		}
		sum = (sum + above*inverse(f, below)) % p
	}
	return sum
}

// foldOf returns the fold of a word, without the program.
func foldOf(d api.Domain, v []uint64, z uint64) []uint64 {
	out := make([]uint64, len(v)/8)
	for i := range out {
		var xs, ys []uint64
		for at := i; at < len(v); at += len(out) {
			xs, ys = append(xs, point(d, at)), append(ys, v[at])
		}
		out[i] = through(d.Field, xs, ys, z)
	}
	return out
}

// combined returns the sum of e^i times the column with the number i, without the program.
func combined(f int, cols [][]uint64, e uint64) []uint64 {
	out := make([]uint64, len(cols[0]))
	for i, v := range cols {
		for j, x := range v {
			out[j] = (out[j] + power(f, e, uint64(i))*(x%primes[f])) % primes[f]
		}
	}
	return out
}

// elements returns n elements.
func elements(r *rand.Rand, f, n int) []uint64 {
	l := make([]uint64, n)
	for i := range l {
		l[i] = r.Uint64() % primes[f]
	}
	return l
}

// dressed returns numbers that are the same modulo P, most of them no elements.
func dressed(r *rand.Rand, f int, l []uint64) []uint64 {
	out := make([]uint64, len(l))
	for i, x := range l {
		out[i] = x%primes[f] + primes[f]*(r.Uint64()%(most/primes[f]))
	}
	return out
}

// dressedAll does the same with lists.
func dressedAll(r *rand.Rand, f int, l [][]uint64) [][]uint64 {
	out := make([][]uint64, len(l))
	for i, x := range l {
		out[i] = dressed(r, f, x)
	}
	return out
}

// domains returns valid domains of the fields in which is counted, with K from least to greatest and with several shifts.
func domains(least, greatest int) []api.Domain {
	var out []api.Domain
	for f := range primes[:2] {
		for k := least; k <= min(greatest, exponents[f]); k++ {
			for _, shift := range []uint64{1, generators[f]} {
				out = append(out, api.Domain{Field: f, K: k, Shift: shift})
			}
		}
	}
	return out
}

// someColumns returns columns whose local polynomials are often the same in several fibres, or differ little.
func someColumns(r *rand.Rand, d api.Domain, n int) [][]uint64 {
	kinds := 1 + r.Intn(3)
	out := make([][]uint64, n)
	for i := range out {
		polys := make([][]uint64, 1<<d.K/8)
		base := elements(r, d.Field, 8)
		for j := range polys {
			more := withRoots(d.Field, uint64(r.Intn(kinds)), elements(r, d.Field, r.Intn(8))...)
			polys[j] = base
			if r.Intn(2) == 0 {
				polys[j] = plus(d.Field, base, more)
			}
		}
		out[i] = dressed(r, d.Field, pieces(d, polys))
	}
	return out
}

// noDomains returns domains that are not valid or have no fibre.
func noDomains() []api.Domain {
	var out []api.Domain
	for f, p := range primes {
		for _, k := range []int{3, 4, exponents[f]} {
			for _, shift := range []uint64{0, p, p + 1, 5*p + 3, 1 << 32, most} {
				out = append(out, api.Domain{Field: f, K: k, Shift: shift})
			}
		}
		for _, k := range []int{math.MinInt, -64, -3, -1, 0, 1, 2, exponents[f] + 1, 19, 20, 23, 24, 63, 64, 1 << 32, math.MaxInt} {
			out = append(out, api.Domain{Field: f, K: k, Shift: 1}, api.Domain{Field: f, K: k, Shift: 0}, api.Domain{Field: f, K: k, Shift: p})
		}
	}
	for _, f := range noFields {
		for _, k := range []int{math.MinInt, -1, 0, 3, 5, 18, 64, math.MaxInt} {
			out = append(out, api.Domain{Field: f, K: k, Shift: 1}, api.Domain{Field: f, K: k})
		}
	}
	return append(out, api.Domain{})
}

// farDomains returns valid domains in which is not counted.
func farDomains() []api.Domain {
	out := []api.Domain{{Field: 1, K: 7, Shift: 1}, {Field: 1, K: 8, Shift: 3}, {Field: 1, K: 7, Shift: 256}}
	for f, p := range primes[2:] {
		for k := 3; k <= 12; k++ {
			out = append(out, api.Domain{Field: 2 + f, K: k, Shift: 1}, api.Domain{Field: 2 + f, K: k, Shift: p - 1})
		}
	}
	return append(out, api.Domain{Field: 3, K: 18, Shift: 1})
}

// want reports a result that is not the one that is wanted.
func want[T comparable](t *testing.T, what string, got, wanted T) {
	t.Helper()
	if got != wanted {
		t.Errorf("%s is %v, not %v", what, got, wanted)
	}
}

// wantCount reports a count, or an error, that is not the one that is wanted.
func wantCount(t *testing.T, what string, got int, e api.Errno, wanted int) {
	t.Helper()
	want(t, what, got, wanted)
	want(t, "the error of "+what, e, api.OK)
}

// wantNoCount reports a count beside an error, or another error.
func wantNoCount(t *testing.T, what string, got int, e, wanted api.Errno) {
	t.Helper()
	want(t, what, got, 0)
	want(t, "the error of "+what, e, wanted)
}

// fraction returns a fraction, without the program.
func fraction(x api.Ratio) *big.Rat {
	whole := func(l api.Nat) *big.Int {
		n := new(big.Int)
		for i := len(l) - 1; i >= 0; i-- {
			n.Lsh(n, 32).Or(n, big.NewInt(int64(l[i])))
		}
		return n
	}
	if len(x.Den) == 0 {
		return new(big.Rat)
	}
	return new(big.Rat).SetFrac(whole(x.Num), whole(x.Den))
}

// limbs returns the limbs of a natural number, without the program.
func limbs(n *big.Int) api.Nat {
	var l api.Nat
	for n = new(big.Int).Set(n); n.Sign() > 0; n.Rsh(n, 32) {
		l = append(l, uint32(new(big.Int).And(n, big.NewInt(math.MaxUint32)).Uint64()))
	}
	return l
}

// wantRatio reports a fraction that is not the one that is wanted, or not in lowest terms, or an error.
func wantRatio(t *testing.T, what string, got api.Ratio, e api.Errno, wanted *big.Rat) {
	t.Helper()
	if !slices.Equal(got.Num, limbs(wanted.Num())) || !slices.Equal(got.Den, limbs(wanted.Denom())) {
		t.Errorf("%s is %v, %v, not %v", what, got.Num, got.Den, wanted)
	}
	want(t, "the error of "+what, e, api.OK)
}

// wantNoRatio reports a fraction beside an error, or another error.
func wantNoRatio(t *testing.T, what string, got api.Ratio, e, wanted api.Errno) {
	t.Helper()
	want(t, "the number of limbs of "+what, len(got.Num)+len(got.Den), 0)
	want(t, "the error of "+what, e, wanted)
}

// lesser returns the lesser one of 1 and x.
func lesser(x *big.Rat) *big.Rat {
	if one := big.NewRat(1, 1); x.Cmp(one) > 0 {
		return one
	}
	return x
}

// powerOf returns x^n of a fraction, without the program.
func powerOf(x *big.Rat, n int) *big.Rat {
	out := big.NewRat(1, 1)
	for range n {
		out.Mul(out, x)
	}
	return out
}
