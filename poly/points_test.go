package poly

import (
	"math/rand"
	"slices"
	"testing"

	"attestor/api"
)

// different returns n numbers that are different elements, in any order and mostly not below P.
func different(r *rand.Rand, f, n int) []uint64 {
	seen := map[uint64]bool{}
	var l []uint64
	for len(l) < n {
		x := r.Uint64()
		if r.Intn(3) == 0 {
			x %= primes[f]
		}
		if !seen[x%primes[f]] {
			seen[x%primes[f]] = true
			l = append(l, x)
		}
	}
	return l
}

// P3.4

// checkThrough checks what Through promises; there are no two such polynomials.
func checkThrough(t *testing.T, f int, xs, ys []uint64) {
	t.Helper()
	p, e := Through(f, xs, ys)
	want(t, "the error of Through", e, api.OK)
	wantNormal(t, "Through", f, p)
	want(t, "whether Through has at most as many coefficients as points", len(p) <= len(xs), true)
	for i, x := range xs {
		want(t, "the value of Through", value(f, p, x), ys[i]%primes[f])
	}
}

func TestThrough(t *testing.T) {
	r := rand.New(rand.NewSource(37))
	for f := range primes {
		for n := range 40 {
			for range 5 {
				checkThrough(t, f, different(r, f, n), some(r, f, n))
			}
			checkThrough(t, f, different(r, f, n), make([]uint64, n))
			checkThrough(t, f, different(r, f, n), slices.Repeat([]uint64{primes[f] + 3}, n))
		}
		for _, none := range [][]uint64{nil, {}} {
			p, e := Through(f, none, nil)
			wantNone(t, "Through no points", p, e, api.OK)
		}
		p, e := Through(f, []uint64{3, 4, 5}, []uint64{0, primes[f], 0})
		wantNone(t, "Through points on the line 0", p, e, api.OK)
		p, e = Through(f, []uint64{5, 0, primes[f] + 1}, []uint64{7, 7, 7})
		wantList(t, "Through points of the same value", p, []uint64{7})
		want(t, "the error of Through", e, api.OK)
		p, e = Through(f, []uint64{primes[f]}, []uint64{primes[f] + 9})
		wantList(t, "Through one point", p, []uint64{9})
		want(t, "the error of Through", e, api.OK)
	}
}

func TestThroughAllElements(t *testing.T) {
	r := rand.New(rand.NewSource(38))
	for f := range 2 {
		n := int(primes[f])
		xs := different(r, f, n)
		checkThrough(t, f, xs, some(r, f, n))
		p, e := Through(f, append(xs, 5), make([]uint64, n+1))
		wantNone(t, "Through all elements and one more", p, e, api.ErrDuplicate)
	}
}

func TestThroughAsManyPointsAsPossible(t *testing.T) {
	r := rand.New(rand.NewSource(39))
	for _, f := range []int{2, 3} {
		for _, n := range []int{1023, 1024} {
			checkThrough(t, f, different(r, f, n), some(r, f, n))
		}
		for _, n := range []int{1025, 1026, 5000} {
			p, e := Through(f, different(r, f, n), some(r, f, n))
			wantNone(t, "Through too many points", p, e, api.ErrLimit)
		}
	}
	for f := range 2 { // these fields have fewer elements
		for _, n := range []int{1000, 1024} {
			p, e := Through(f, some(r, f, n), some(r, f, n))
			wantNone(t, "Through more points than elements", p, e, api.ErrDuplicate)
		}
	}
}

func TestThroughTheSameElementTwice(t *testing.T) {
	r := rand.New(rand.NewSource(40))
	for f, prime := range primes {
		for n := 2; n < 30; n++ {
			xs := different(r, f, n)
			i, j := r.Intn(n), r.Intn(n-1)
			if j >= i {
				j++
			}
			for _, same := range []uint64{xs[i], xs[i] % prime, xs[i]%prime + prime, xs[i]%prime + 5*prime} {
				xs[j] = same
				p, e := Through(f, xs, some(r, f, n))
				wantNone(t, "Through the same element twice", p, e, api.ErrDuplicate)
				p, e = Through(f, xs, slices.Repeat([]uint64{4}, n)) // the values do not matter
				wantNone(t, "Through the same element twice with the same value", p, e, api.ErrDuplicate)
			}
		}
		p, e := Through(f, []uint64{0, prime}, []uint64{1, 2})
		wantNone(t, "Through 0 and P", p, e, api.ErrDuplicate)
		ends := append(different(r, f, 60), 0)
		ends[60] = ends[0]
		p, e = Through(f, ends, make([]uint64, 61))
		wantNone(t, "Through the first point again", p, e, api.ErrDuplicate)
	}
}

func TestVanish(t *testing.T) {
	r := rand.New(rand.NewSource(41))
	for f, prime := range primes {
		for _, xs := range append(lists(f), different(r, f, 50), []uint64{4, 4, 4}, []uint64{0, prime, 2 * prime}, numbers(f)) {
			wanted := []uint64{1}
			for _, x := range xs {
				wanted = times(f, wanted, []uint64{prime - x%prime, 1})
			}
			p, e := Vanish(f, xs)
			wantList(t, "Vanish", p, wanted)
			want(t, "the error of Vanish", e, api.OK)
		}
		for _, n := range []int{1023, 1024} {
			xs := some(r, f, n)
			p, e := Vanish(f, xs)
			want(t, "the error of Vanish", e, api.OK)
			wantNormal(t, "Vanish", f, p)
			want(t, "the length of Vanish", len(p), n+1)
			for _, x := range xs[:20] {
				want(t, "the value of Vanish at a number of it", value(f, p, x), 0)
			}
			wanted := uint64(1)
			for _, x := range xs {
				wanted = wanted * (3 + prime - x%prime) % prime
			}
			want(t, "the value of Vanish at 3", value(f, p, 3), wanted)
		}
		for _, n := range []int{1025, 1026, 50000} {
			for _, xs := range [][]uint64{some(r, f, n), make([]uint64, n)} {
				p, e := Vanish(f, xs)
				wantNone(t, "Vanish of too many numbers", p, e, api.ErrLimit)
			}
		}
	}
}

func TestErrorsOfPointsInTheirOrder(t *testing.T) {
	few, other, many := []uint64{1, 2, 2}, []uint64{1, 2}, slices.Repeat([]uint64{7}, 1025)
	for _, f := range noFields {
		for _, xs := range [][]uint64{nil, {}, {0}, few, other, many} {
			for _, ys := range [][]uint64{nil, {}, {0}, few, other, many} {
				p, e := Through(f, xs, ys)
				wantNone(t, "Through without a field", p, e, api.ErrArg)
			}
			p, e := Vanish(f, xs)
			wantNone(t, "Vanish without a field", p, e, api.ErrArg)
		}
	}
	for f := range primes {
		for _, c := range []struct {
			xs, ys []uint64
			wanted api.Errno
		}{
			{few, other, api.ErrArg}, {other, few, api.ErrArg}, {nil, other, api.ErrArg}, {other, nil, api.ErrArg},
			{many, few, api.ErrArg}, {few, many, api.ErrArg}, {many, many[:1024], api.ErrArg}, {many[:1024], many, api.ErrArg},
			{many, many, api.ErrLimit}, {many[:1024], many[:1024], api.ErrDuplicate}, {few, few, api.ErrDuplicate},
		} {
			p, e := Through(f, c.xs, c.ys)
			wantNone(t, "Through", p, e, c.wanted)
		}
	}
}

// P3.6

func TestThroughTheValuesOfAPolynomialIsThePolynomial(t *testing.T) {
	r := rand.New(rand.NewSource(42))
	for f := range primes {
		for _, p := range append(lists(f), some(r, f, 90)) {
			p = Normal(f, p)
			for _, more := range []int{0, 1, 5} { // more points do not change it
				xs := different(r, f, len(p)+more)
				ys := make([]uint64, len(xs))
				for i, x := range xs {
					ys[i] = Eval(f, p, x)
				}
				got, e := Through(f, xs, ys)
				wantList(t, "Through the values", got, p)
				want(t, "the error of Through", e, api.OK)
			}
		}
	}
}

// roots counts the roots of a polynomial in a field.
func roots(f int, p []uint64) int {
	n := 0
	for x := range primes[f] {
		if Eval(f, p, x) == 0 {
			n++
		}
	}
	return n
}

func TestAPolynomialHasAtMostAsManyRootsAsItsDegree(t *testing.T) {
	r := rand.New(rand.NewSource(43))
	for f := range 3 {
		for _, p := range append(lists(f), []uint64{1, 0, 1}, []uint64{primes[f] - 1, 0, 0, 0, 1}) {
			if Degree(f, p) >= 0 {
				want(t, "whether there are at most as many roots as the degree", roots(f, p) <= Degree(f, p), true)
			}
		}
		for n := range 20 {
			xs := different(r, f, n)
			p, e := Vanish(f, xs)
			want(t, "the error of Vanish", e, api.OK)
			want(t, "the number of roots of Vanish", roots(f, p), n)
			for _, x := range xs {
				want(t, "the value of Vanish", Eval(f, p, x), 0)
			}
		}
	}
	all := different(r, 0, 97) // X^97 - X
	p, e := Vanish(0, all)
	want(t, "the error of Vanish", e, api.OK)
	wanted := make([]uint64, 98)
	wanted[1], wanted[97] = 96, 1
	wantList(t, "Vanish of all elements", p, wanted)
}
