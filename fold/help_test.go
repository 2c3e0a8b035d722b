package fold

import (
	"math"
	"math/rand"
	"slices"
	"testing"

	"attestor/api"
)

// The numbers of the fields and the exponents of their greatest sizes, so that the tests compute without the program.
var (
	primes     = []uint64{97, 257, 12289, 998244353}
	generators = []uint64{5, 3, 11, 3}
	exponents  = []int{5, 8, 12, 18}
)

// noFields are numbers that are those of no field.
var noFields = []int{-1, -2, -4, 4, 5, 7, 8, 256, math.MinInt, math.MaxInt, math.MinInt32, math.MaxInt32}

const most = math.MaxUint64

// power returns x^n, without the program.
func power(f int, x, n uint64) uint64 {
	out := uint64(1)
	for x %= primes[f]; n > 0; n >>= 1 {
		if n&1 == 1 {
			out = out * x % primes[f]
		}
		x = x * x % primes[f]
	}
	return out
}

// value returns the value at x, term by term, without the program.
func value(f int, p []uint64, x uint64) uint64 {
	sum, xs := uint64(0), uint64(1)
	for _, c := range p {
		sum = (sum + c%primes[f]*xs) % primes[f]
		xs = xs * (x % primes[f]) % primes[f]
	}
	return sum
}

// point returns the point with the number i of a valid domain, without the program.
func point(d api.Domain, i int) uint64 {
	exponent := (primes[d.Field] - 1) >> d.K * uint64(i)
	return power(d.Field, generators[d.Field], exponent) * d.Shift % primes[d.Field]
}

// pieces returns the word that has in the fibre i the local polynomial locals[i], without the program.
func pieces(d api.Domain, locals [][]uint64) []uint64 {
	out := make([]uint64, 1<<d.K)
	for i := range out {
		out[i] = value(d.Field, locals[i%len(locals)], point(d, i))
	}
	return out
}

// wordOf returns the word of a polynomial, without the program.
func wordOf(d api.Domain, p []uint64) []uint64 { return pieces(d, [][]uint64{p}) }

// through returns the value at z of the polynomial with the values ys at different points, by Lagrange's sum, without the program.
func through(f int, xs, ys []uint64, z uint64) uint64 {
	p, sum := primes[f], uint64(0)
	for j, y := range ys {
		above, below := y%p, uint64(1)
		for k, x := range xs {
			if k != j {
				above = above * (z%p + p - x) % p
				below = below * (xs[j] + p - x) % p
			}
		}
		sum = (sum + above*power(f, below, p-2)) % p
	}
	return sum
}

// foldOf returns the fold of a word, without the program.
func foldOf(d api.Domain, v []uint64, z uint64) []uint64 {
	out := make([]uint64, len(v)/8)
	for i := range out {
		var xs, ys []uint64
		for at := i; at < len(v); at += len(out) {
			xs, ys = append(xs, point(d, at)), append(ys, v[at])
		}
		out[i] = through(d.Field, xs, ys, z)
	}
	return out
}

// nextOf returns the next domain, without the program.
func nextOf(d api.Domain) api.Domain {
	return api.Domain{Field: d.Field, K: d.K - 3, Shift: power(d.Field, d.Shift, 8)}
}

// elements returns the numbers modulo P.
func elements(f int, l []uint64) []uint64 {
	out := make([]uint64, len(l))
	for i, x := range l {
		out[i] = x % primes[f]
	}
	return out
}

// dressed returns numbers that are the same modulo P, most of them no elements.
func dressed(r *rand.Rand, f int, l []uint64) []uint64 {
	out := make([]uint64, len(l))
	for i, x := range l {
		out[i] = x%primes[f] + primes[f]*(r.Uint64()%(most/primes[f]))
	}
	return out
}

// some returns n numbers of any size, more often than by chance multiples of P and numbers beside them.
func some(r *rand.Rand, f, n int) []uint64 {
	l := make([]uint64, n)
	for i := range l {
		switch r.Intn(6) {
		case 0:
			l[i] = primes[f] * uint64(r.Intn(3))
		case 1:
			l[i] = primes[f] - 1
		case 2:
			l[i] = most - uint64(r.Intn(3))
		default:
			l[i] = r.Uint64()
		}
	}
	return l
}

// challenges returns numbers of any size, among them those at which a field could go wrong.
func challenges(r *rand.Rand, f int) []uint64 {
	p := primes[f]
	return append(some(r, f, 3), 0, 1, 2, p-1, p, p+1, most/p*p, most)
}

// domains returns valid domains of a field with K from least to greatest, with several shifts.
func domains(f, least, greatest int) []api.Domain {
	var out []api.Domain
	for k := least; k <= min(greatest, exponents[f]); k++ {
		for _, shift := range []uint64{1, 2, generators[f], primes[f] - 1} {
			out = append(out, api.Domain{Field: f, K: k, Shift: shift})
		}
	}
	return out
}

// noDomains returns domains that are not valid, for one reason or several.
func noDomains() []api.Domain {
	var out []api.Domain
	for f, p := range primes {
		for _, k := range []int{0, 1, 2, 3, 4, exponents[f]} {
			for _, shift := range []uint64{0, p, p + 1, 2 * p, 5*p + 3, 1 << 32, most} {
				out = append(out, api.Domain{Field: f, K: k, Shift: shift})
			}
		}
		for _, k := range []int{math.MinInt, -64, -3, -1, exponents[f] + 1, 19, 20, 23, 24, 63, 64, 1 << 32, math.MaxInt} {
			out = append(out, api.Domain{Field: f, K: k, Shift: 1}, api.Domain{Field: f, K: k, Shift: 0}, api.Domain{Field: f, K: k, Shift: p})
		}
	}
	for _, f := range noFields {
		for _, k := range []int{math.MinInt, -1, 0, 1, 3, 5, 18, 64, math.MaxInt} {
			out = append(out, api.Domain{Field: f, K: k, Shift: 1}, api.Domain{Field: f, K: k}, api.Domain{Field: f, K: k, Shift: 5})
		}
	}
	return append(out, api.Domain{})
}

// noWords returns lists that are no words on a domain with 2^k points.
func noWords(k int) [][]uint64 {
	var out [][]uint64
	for _, n := range []int{0, 1, 2, 4, 8, 16, 1<<k - 1, 1<<k + 1, 1 << k / 8, 8 << k, 1<<k + 8, 2 << k} {
		if n != 1<<k {
			out = append(out, slices.Repeat([]uint64{7}, n))
		}
	}
	return out
}

// wrongPlaces returns numbers that are not from 0 to n - 1.
func wrongPlaces(n int) []int {
	return []int{math.MinInt, math.MinInt32, -n - 1, -n, -8, -2, -1, n, n + 1, 2*n + 1, 8*n - 1, 8 * n, 1 << 40, math.MaxInt32, math.MaxInt}
}

// want reports a result that is not the one that is wanted.
func want[T comparable](t *testing.T, what string, got, wanted T) {
	t.Helper()
	if got != wanted {
		t.Errorf("%s is %v, not %v", what, got, wanted)
	}
}

// wantOK reports an error or a list that is not the one that is wanted. It shows of long lists only their lengths.
func wantOK(t *testing.T, what string, got []uint64, e api.Errno, wanted []uint64) {
	t.Helper()
	want(t, "the error of "+what, e, api.OK)
	switch {
	case slices.Equal(got, wanted):
	case len(got) <= 64 && len(wanted) <= 64:
		t.Errorf("%s is %v, not %v", what, got, wanted)
	default:
		t.Errorf("%s, of %d numbers, is not the list of %d numbers that it should be", what, len(got), len(wanted))
	}
}

// wantNone reports a result beside an error, or another error.
func wantNone[T any](t *testing.T, what string, got []T, e, wanted api.Errno) {
	t.Helper()
	want(t, "the length of "+what, len(got), 0)
	want(t, "the error of "+what, e, wanted)
}

// wantWords reports an error or words that are not those that are wanted.
func wantWords(t *testing.T, what string, got [][]uint64, e api.Errno, wanted ...[]uint64) {
	t.Helper()
	want(t, "the number of words of "+what, len(got), len(wanted))
	for i := range min(len(got), len(wanted)) {
		wantOK(t, "a word of "+what, got[i], e, wanted[i])
	}
}

// roomy returns a copy of a list with other numbers behind it, onto which a careless append would write.
func roomy(l []uint64) []uint64 { return append(slices.Clone(l), 11, 22, 33, 44)[:len(l)] }

// copies copies lists, with the memory behind each.
func copies(l [][]uint64) [][]uint64 {
	out := make([][]uint64, len(l))
	for i, x := range l {
		out[i] = slices.Clone(x[:cap(x)])
	}
	return out
}

// wantApart calls f and reports if that changes an argument. Then it overwrites each result, with the memory behind it, and reports if that changes an argument or another result.
func wantApart(t *testing.T, what string, args [][]uint64, f func() [][]uint64) {
	t.Helper()
	same := func(a, b [][]uint64) bool { return slices.EqualFunc(a, b, slices.Equal) }
	before := copies(args)
	results := f()
	want(t, what+": whether the arguments stay", same(copies(args), before), true)
	for i := range results {
		all := slices.Concat(args, results)
		all[len(args)+i] = nil
		before = copies(all)
		mine := results[i][:cap(results[i])]
		kept := slices.Clone(mine)
		for j := range mine {
			mine[j] ^= most
		}
		want(t, what+": whether the lists beside a result that was changed stay", same(copies(all), before), true)
		copy(mine, kept)
	}
}
