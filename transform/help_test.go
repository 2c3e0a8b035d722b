package transform

import (
	"math"
	"math/rand"
	"slices"
	"testing"

	"attestor/api"
)

// The numbers of the fields and the exponents of their greatest sizes, so that the tests compute without the program.
var (
	primes     = []uint64{97, 257, 12289, 998244353}
	generators = []uint64{5, 3, 11, 3}
	exponents  = []int{5, 8, 12, 18}
)

// noFields are numbers that are those of no field.
var noFields = []int{-1, -2, -4, 4, 5, 7, 8, 256, math.MinInt, math.MaxInt, math.MinInt32, math.MaxInt32}

const most = math.MaxUint64

// plain computes without the program: the coefficients modulo P, without the zeros at the end.
func plain(f int, p []uint64) []uint64 {
	out := elements(f, p)
	for len(out) > 0 && out[len(out)-1] == 0 {
		out = out[:len(out)-1]
	}
	return out
}

// elements returns the numbers modulo P.
func elements(f int, l []uint64) []uint64 {
	out := make([]uint64, len(l))
	for i, x := range l {
		out[i] = x % primes[f]
	}
	return out
}

// times returns the product of two polynomials, without the program.
func times(f int, a, b []uint64) []uint64 {
	out := make([]uint64, len(a)+len(b))
	for i, x := range elements(f, a) {
		for j, y := range elements(f, b) {
			out[i+j] = (out[i+j] + x*y) % primes[f]
		}
	}
	return plain(f, out)
}

// power returns x^n, without the program.
func power(f int, x, n uint64) uint64 {
	out := uint64(1)
	for x %= primes[f]; n > 0; n >>= 1 {
		if n&1 == 1 {
			out = out * x % primes[f]
		}
		x = x * x % primes[f]
	}
	return out
}

// value returns the value at x, term by term, without the program.
func value(f int, p []uint64, x uint64) uint64 {
	sum, xs := uint64(0), uint64(1)
	for _, c := range p {
		sum = (sum + c%primes[f]*xs) % primes[f]
		xs = xs * (x % primes[f]) % primes[f]
	}
	return sum
}

// point returns the point with the number i of the coset of shift with 2^k points, without the program.
func point(f, k int, shift uint64, i int) uint64 {
	exponent := (primes[f] - 1) >> k * uint64(i)
	return power(f, generators[f], exponent) * (shift % primes[f]) % primes[f]
}

// values returns the values at all points of a coset, without the program.
func values(f, k int, shift uint64, p []uint64) []uint64 {
	out := make([]uint64, 1<<k)
	for i := range out {
		out[i] = value(f, p, point(f, k, shift, i))
	}
	return out
}

// some returns n numbers of any size, more often than by chance multiples of P and numbers beside them.
func some(r *rand.Rand, f, n int) []uint64 {
	l := make([]uint64, n)
	for i := range l {
		switch r.Intn(6) {
		case 0:
			l[i] = primes[f] * uint64(r.Intn(3))
		case 1:
			l[i] = primes[f] - 1
		case 2:
			l[i] = most - uint64(r.Intn(3))
		default:
			l[i] = r.Uint64()
		}
	}
	return l
}

// full returns n numbers of which the last one is not 0 modulo P.
func full(r *rand.Rand, f, n int) []uint64 {
	l := some(r, f, n)
	l[n-1] = 1 + r.Uint64()%(primes[f]-1)
	return l
}

// lists returns lists of at most 2^k numbers, each one as a polynomial and, with zeros behind it, as values: 0 in many forms, one coefficient, the greatest numbers, and lists of some lengths.
func lists(f, k int) [][]uint64 {
	p, n := primes[f], 1<<k
	r := rand.New(rand.NewSource(int64(100*f + k)))
	l := [][]uint64{nil, {}, {0}, {p}, {1}, {p - 1}, {p + 1}, {most}, make([]uint64, n), some(r, f, n), full(r, f, n)}
	l = append(l, slices.Repeat([]uint64{p - 1}, n), slices.Repeat([]uint64{most}, n), slices.Repeat([]uint64{p}, n))
	for _, i := range []int{1, n / 2, n - 1} { // one power of X
		if i < n {
			one := make([]uint64, n)
			one[i] = 2*p + 3
			l = append(l, one)
		}
	}
	for _, m := range []int{2, 3, 5, n/2 - 1, n / 2, n/2 + 1, n - 1} {
		if m > 0 && m <= n {
			l = append(l, some(r, f, m))
		}
	}
	return l
}

// long returns a list with zeros at its end, n numbers in all.
func long(l []uint64, n int) []uint64 { return append(slices.Clone(l), make([]uint64, n-len(l))...) }

// shifts returns numbers that are not 0 modulo P, elements and others.
func shifts(f int) []uint64 {
	p := primes[f]
	return []uint64{1, generators[f], p - 1, 2, 22, p + 1, 3*p - 1, 5*p + 7, most/p*p + 3, most/p*p - 2}
}

// zeros returns numbers that are 0 modulo P.
func zeros(f int) []uint64 {
	return []uint64{0, primes[f], 2 * primes[f], most / primes[f] * primes[f]}
}

// want reports a result that is not the one that is wanted.
func want[T comparable](t *testing.T, what string, got, wanted T) {
	t.Helper()
	if got != wanted {
		t.Errorf("%s is %v, not %v", what, got, wanted)
	}
}

// wantList reports a list that is not the one that is wanted. It shows of long lists only where they differ.
func wantList(t *testing.T, what string, got, wanted []uint64) {
	t.Helper()
	if slices.Equal(got, wanted) {
		return
	}
	if len(got) <= 64 && len(wanted) <= 64 {
		t.Errorf("%s is %v, not %v", what, got, wanted)
		return
	}
	at := 0
	for at < min(len(got), len(wanted)) && got[at] == wanted[at] {
		at++
	}
	t.Errorf("%s, of %d numbers, is from the place %d on not the list of %d numbers that it should be", what, len(got), at, len(wanted))
}

// wantOK reports an error or a list that is not the one that is wanted.
func wantOK(t *testing.T, what string, got []uint64, e api.Errno, wanted []uint64) {
	t.Helper()
	wantList(t, what, got, wanted)
	want(t, "the error of "+what, e, api.OK)
}

// wantNone reports a result beside an error, or another error.
func wantNone(t *testing.T, what string, got []uint64, e, wanted api.Errno) {
	t.Helper()
	want(t, "the length of "+what, len(got), 0)
	want(t, "the error of "+what, e, wanted)
}

// wantValues reports values of p at the points of a coset that are wrong, at the ends, the middle and some other places.
func wantValues(t *testing.T, what string, f, k int, shift uint64, p, got []uint64) {
	t.Helper()
	want(t, "the length of "+what, len(got), 1<<k)
	if len(got) != 1<<k {
		return
	}
	r := rand.New(rand.NewSource(int64(k)))
	places := []int{0, 1, 2, len(got) / 4, len(got)/2 - 1, len(got) / 2, len(got) - 2, len(got) - 1, r.Intn(len(got)), r.Intn(len(got)), r.Intn(len(got))}
	for _, i := range places {
		if i >= 0 && i < len(got) {
			want(t, what, got[i], value(f, p, point(f, k, shift, i)))
		}
	}
}

// roomy returns a copy of a list with other numbers behind it, onto which a careless append would write.
func roomy(l []uint64) []uint64 { return append(slices.Clone(l), 11, 22, 33, 44)[:len(l)] }

// copies copies lists, with the memory behind each.
func copies(l [][]uint64) [][]uint64 {
	out := make([][]uint64, len(l))
	for i, x := range l {
		out[i] = slices.Clone(x[:cap(x)])
	}
	return out
}

// wantApart calls f and reports if that changes an argument. Then it overwrites each result, with the memory behind it, and reports if that changes an argument or another result.
func wantApart(t *testing.T, what string, args [][]uint64, f func() [][]uint64) {
	t.Helper()
	same := func(a, b [][]uint64) bool { return slices.EqualFunc(a, b, slices.Equal) }
	before := copies(args)
	results := f()
	want(t, what+": whether the arguments stay", same(copies(args), before), true)
	for i := range results {
		all := slices.Concat(args, results)
		all[len(args)+i] = nil
		before = copies(all)
		mine := results[i][:cap(results[i])]
		kept := slices.Clone(mine)
		for j := range mine {
			mine[j] ^= most
		}
		want(t, what+": whether the lists beside a result that was changed stay", same(copies(all), before), true)
		copy(mine, kept)
	}
}
