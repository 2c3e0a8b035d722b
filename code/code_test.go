package code

import (
	"math"
	"testing"

	"attestor/api"
)

// P5.1

func TestValidDomainsAndTheirSizes(t *testing.T) {
	for f, p := range primes {
		for k := range exponents[f] + 1 {
			for _, shift := range []uint64{1, 2, 5, p / 2, p - 2, p - 1} {
				d := api.Domain{Field: f, K: k, Shift: shift}
				want(t, "Valid", Valid(d), true)
				want(t, "Size", Size(d), 1<<k)
				want(t, "the number of Points", len(Points(d)), 1<<k)
			}
		}
	}
}

func TestDomainsThatAreNotValid(t *testing.T) {
	for _, d := range noDomains() {
		want(t, "Valid", Valid(d), false)
		want(t, "Size", Size(d), 0)
		want(t, "the number of Points", len(Points(d)), 0)
		for _, i := range append(wrongPlaces(8), 0, 1, 2, 7, 1<<18-1) {
			want(t, "Point", Point(d, i), 0)
		}
	}
}

func TestPointAndPoints(t *testing.T) {
	for f := range primes {
		for _, d := range domains(f, 0, 12) {
			l := Points(d)
			want(t, "the number of Points", len(l), 1<<d.K)
			for i, x := range l {
				if d.K <= 8 || i%97 == 0 {
					want(t, "one of Points", x, point(d, i))
					want(t, "Point", Point(d, i), x)
				}
			}
		}
	}
}

func TestPointsOfTheGreatestDomains(t *testing.T) {
	for f, k := range exponents {
		d := api.Domain{Field: f, K: k, Shift: primes[f] - 3}
		seen := map[uint64]bool{}
		for i, x := range Points(d) {
			seen[x] = true
			if i%997 == 0 || i == 1<<k-1 {
				want(t, "one of Points", x, point(d, i))
				want(t, "Point", Point(d, i), point(d, i))
			}
		}
		want(t, "the number of different points", len(seen), 1<<k)
	}
}

func TestPointBesideTheDomain(t *testing.T) {
	for f := range primes {
		for _, d := range domains(f, 0, 18) {
			for _, i := range wrongPlaces(1 << d.K) {
				want(t, "Point", Point(d, i), 0)
			}
		}
	}
}

func TestWide(t *testing.T) {
	for f, g := range exponents {
		for k := range g + 1 {
			for b := range g - k + 1 {
				d, e := Wide(f, k, b)
				want(t, "Wide", d, api.Domain{Field: f, K: k + b, Shift: generators[f]})
				want(t, "the error of Wide", e, api.OK)
				want(t, "whether Wide is valid", Valid(d), true)
			}
		}
	}
}

func TestErrorsOfWideInTheirOrder(t *testing.T) {
	wide := func(f, k, b int, wanted api.Errno) {
		t.Helper()
		d, e := Wide(f, k, b)
		want(t, "Wide beside an error", d, api.Domain{})
		want(t, "the error of Wide", e, wanted)
	}
	for f, g := range exponents {
		for k := range g + 1 {
			for _, n := range []int{g - k + 1, g - k + 2, g + 1, 19, 64, 1 << 32, math.MaxInt - k, math.MaxInt - 1, math.MaxInt} {
				wide(f, k, n, api.ErrRange)
				wide(f, n, k, api.ErrRange)
			}
			for _, n := range []int{-1, -2, -g, -k - 1, -64, math.MinInt32, math.MinInt} {
				wide(f, k, n, api.ErrRange)
				wide(f, n, k, api.ErrRange)
				wide(f, n, k-n, api.ErrRange) // the sum is k
				wide(f, k-n, n, api.ErrRange)
			}
		}
		for _, k := range []int{math.MinInt, -1, math.MaxInt - 1, math.MaxInt} { // the sum wraps around
			for _, b := range []int{math.MinInt, -1, 1, 2, math.MaxInt - 1, math.MaxInt} {
				wide(f, k, b, api.ErrRange)
			}
		}
	}
	for _, f := range noFields {
		for _, k := range []int{math.MinInt, -1, 0, 1, 3, 19, math.MaxInt} {
			for _, b := range []int{math.MinInt, -1, 0, 1, 3, 19, math.MaxInt} {
				wide(f, k, b, api.ErrArg)
			}
		}
	}
}
