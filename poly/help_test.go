package poly

import (
	"math"
	"math/rand"
	"slices"
	"testing"

	"attestor/api"
)

// primes repeats the P of each field, so that the tests compute without the program.
var primes = []uint64{97, 257, 12289, 998244353}

// noFields are numbers that are those of no field.
var noFields = []int{-1, -2, -4, 4, 5, 7, 8, 256, math.MinInt, math.MaxInt, math.MinInt32, math.MaxInt32}

const greatest = math.MaxUint64

// plain computes without the program: the coefficients modulo P, without the zeros at the end.
func plain(f int, p []uint64) []uint64 {
	var out []uint64
	for _, x := range p {
		out = append(out, x%primes[f])
	}
	for len(out) > 0 && out[len(out)-1] == 0 {
		out = out[:len(out)-1]
	}
	return out
}

// plus returns a + s b, without the program.
func plus(f int, a []uint64, s uint64, b []uint64) []uint64 {
	out := make([]uint64, max(len(a), len(b)))
	for i := range out {
		if i < len(a) {
			out[i] = a[i] % primes[f]
		}
		if i < len(b) {
			out[i] += s % primes[f] * (b[i] % primes[f]) % primes[f]
		}
	}
	return plain(f, out)
}

// times returns the product, without the program.
func times(f int, a, b []uint64) []uint64 {
	out := make([]uint64, len(a)+len(b))
	for i, x := range plain(f, a) {
		for j, y := range plain(f, b) {
			out[i+j] = (out[i+j] + x*y) % primes[f]
		}
	}
	return plain(f, out)
}

// power returns x^n, without the program.
func power(f int, x uint64, n int) uint64 {
	out := uint64(1)
	for range n {
		out = out * (x % primes[f]) % primes[f]
	}
	return out
}

// value returns the value at x, term by term, without the program.
func value(f int, p []uint64, x uint64) uint64 {
	sum, xs := uint64(0), uint64(1)
	for _, c := range p {
		sum = (sum + c%primes[f]*xs) % primes[f]
		xs = xs * (x % primes[f]) % primes[f]
	}
	return sum
}

// some returns n numbers of any size, more often than by chance multiples of P and numbers beside them.
func some(r *rand.Rand, f, n int) []uint64 {
	l := make([]uint64, n)
	for i := range l {
		switch r.Intn(6) {
		case 0:
			l[i] = primes[f] * uint64(r.Intn(3))
		case 1:
			l[i] = primes[f] - 1
		case 2:
			l[i] = greatest - uint64(r.Intn(3))
		default:
			l[i] = r.Uint64()
		}
	}
	return l
}

// lists returns polynomials at which a computation could go wrong: 0 in many forms, constants, coefficients that are no elements, zeros at the end; and some others, always the same ones.
func lists(f int) [][]uint64 {
	p := primes[f]
	l := [][]uint64{
		nil, {}, {0}, {p}, {0, 0, 0}, {p, 2 * p, 0}, {greatest / p * p, 0},
		{1}, {p - 1}, {p + 1}, {greatest}, {5, 0}, {5, p, 0, 2 * p},
		{0, 1}, {p, p + 1}, {p - 1, 1}, {1, p - 1}, {0, 0, 97}, {98, 0, 97}, {1, 2, 3}, {3, 2, 1, 0, 0},
		{p - 1, p - 1, p - 1, p - 1}, {greatest, greatest, greatest}, {0, 0, 0, 0, 0, 0, 0, 0, 1},
	}
	r := rand.New(rand.NewSource(int64(f)))
	for n := 1; n < 14; n++ {
		l = append(l, some(r, f, n))
	}
	return append(l, some(r, f, 64), append(some(r, f, 37), make([]uint64, 5)...), make([]uint64, 70))
}

// numbers returns numbers to evaluate at and to multiply by: elements and others.
func numbers(f int) []uint64 {
	p := primes[f]
	return []uint64{0, 1, 2, 3, 22, p / 2, p - 1, p, p + 1, 2*p - 1, 2 * p, 1 << 32, 1 << 63, greatest / p * p, greatest}
}

// want reports a result that is not the one that is wanted.
func want[T comparable](t *testing.T, what string, got, wanted T) {
	t.Helper()
	if got != wanted {
		t.Errorf("%s is %v, not %v", what, got, wanted)
	}
}

func wantList(t *testing.T, what string, got, wanted []uint64) {
	t.Helper()
	if !slices.Equal(got, wanted) {
		t.Errorf("%s is %v, not %v", what, got, wanted)
	}
}

func wantLists(t *testing.T, what string, got, wanted [][]uint64) {
	t.Helper()
	if !slices.EqualFunc(got, wanted, slices.Equal) {
		t.Errorf("%s is %v, not %v", what, got, wanted)
	}
}

// wantNone reports a result beside an error, or another error.
func wantNone(t *testing.T, what string, got []uint64, e, wanted api.Errno) {
	t.Helper()
	wantList(t, what, got, nil)
	want(t, "the error of "+what, e, wanted)
}

// wantNormal reports a polynomial that is not normal.
func wantNormal(t *testing.T, what string, f int, p []uint64) {
	t.Helper()
	wantList(t, what+" in normal form", p, plain(f, p))
}

// copies copies lists, with the memory behind each.
func copies(l [][]uint64) [][]uint64 {
	out := make([][]uint64, len(l))
	for i, x := range l {
		out[i] = slices.Clone(x[:cap(x)])
	}
	return out
}

// roomy returns a copy of a list with other numbers behind it, onto which a careless append would write.
func roomy(l []uint64) []uint64 {
	return append(slices.Clone(l), 11, 22, 33, 44)[:len(l)]
}

// wantApart calls f and reports if that changes an argument. Then it overwrites each result, with the memory behind it, and reports if that changes an argument or another result.
func wantApart(t *testing.T, what string, args [][]uint64, f func() [][]uint64) {
	t.Helper()
	before := copies(args)
	results := f()
	wantLists(t, what+": the arguments", copies(args), before)
	for i := range results {
		all := slices.Concat(args, results)
		all[len(args)+i] = nil
		before = copies(all)
		mine := results[i][:cap(results[i])]
		kept := slices.Clone(mine)
		for j := range mine {
			mine[j] ^= greatest
		}
		wantLists(t, what+": the lists beside a result that was changed", copies(all), before)
		copy(mine, kept)
	}
}
