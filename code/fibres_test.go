package code

import (
	"math/rand"
	"slices"
	"testing"

	"attestor/api"
)

// P5.6

// wantLocal reports coefficients that are no elements, or that are not those of the polynomial with a word's values in a fibre.
func wantLocal(t *testing.T, d api.Domain, v []uint64, i int) {
	t.Helper()
	p := Local(d, v, i)
	wantList(t, "Local as elements", p[:], elements(d.Field, p[:]))
	for j := i; j < len(v); j += len(v) / 8 {
		want(t, "a value of Local", value(d.Field, p[:], point(d, j)), v[j]%primes[d.Field])
	}
}

func TestLocal(t *testing.T) {
	r := rand.New(rand.NewSource(61))
	for f := range primes {
		for _, d := range domains(f, 3, 8) {
			for _, v := range [][]uint64{some(r, f, 1<<d.K), some(r, f, 1<<d.K), slices.Repeat([]uint64{most}, 1<<d.K)} {
				for i := range 1 << d.K / 8 {
					wantLocal(t, d, v, i)
				}
			}
		}
	}
}

func TestLocalOnTheGreatestDomains(t *testing.T) {
	r := rand.New(rand.NewSource(62))
	for f, k := range exponents {
		d, n := api.Domain{Field: f, K: k, Shift: primes[f] - 2}, 1<<k/8
		v := some(r, f, 1<<k)
		for _, i := range []int{0, 1, n / 2, n - 1, r.Intn(n)} {
			wantLocal(t, d, v, i%n)
		}
	}
}

// TestLocalOfPieces: each fibre has a local polynomial of its own.
func TestLocalOfPieces(t *testing.T) {
	r := rand.New(rand.NewSource(63))
	for f := range primes {
		for _, d := range domains(f, 3, 7) {
			locals := make([][]uint64, 1<<d.K/8)
			for i := range locals {
				locals[i] = elements(f, some(r, f, 8))
			}
			v := dressed(r, f, pieces(d, locals))
			for i, p := range locals {
				got := Local(d, v, i)
				wantList(t, "Local", got[:], p)
			}
		}
	}
}

func TestAgreementOfPieces(t *testing.T) {
	r := rand.New(rand.NewSource(64))
	for f := range primes {
		for _, d := range domains(f, 3, 8) {
			n := 1 << d.K / 8
			for _, columns := range []int{1, 2, 3} {
				for kinds := 1; kinds <= 4; kinds++ {
					cols, wanted := chosen(r, d, n, columns, kinds)
					want(t, "Agreement", Agreement(d, cols), wanted)
				}
			}
		}
	}
}

// chosen returns columns with local polynomials that are chosen, for each column and fibre, from a few ones, and the greatest number of fibres for which the same ones have been chosen in all columns.
func chosen(r *rand.Rand, d api.Domain, n, columns, kinds int) ([][]uint64, int) {
	cols := make([][]uint64, columns)
	choices := make([][3]int, n)
	for c := range cols {
		few := make([][]uint64, kinds)
		for k := range few {
			few[k] = append(some(r, d.Field, 7), uint64(k)) // different ones
		}
		locals := make([][]uint64, n)
		for i := range locals {
			choices[i][c] = r.Intn(kinds)
			locals[i] = few[choices[i][c]]
		}
		cols[c] = dressed(r, d.Field, pieces(d, locals))
	}
	counts, wanted := map[[3]int]int{}, 0
	for _, choice := range choices {
		counts[choice]++
		wanted = max(wanted, counts[choice])
	}
	return cols, wanted
}

// TestAgreementIsThatOfAllColumns: fibres that agree in each column, but no two in both.
func TestAgreementIsThatOfAllColumns(t *testing.T) {
	a, b := []uint64{1, 2}, []uint64{3}
	for f := range primes {
		for _, d := range domains(f, 5, 5) {
			v, w := pieces(d, [][]uint64{a, a, b, b}), pieces(d, [][]uint64{a, b, a, b})
			want(t, "Agreement of one column", Agreement(d, [][]uint64{v}), 2)
			want(t, "Agreement of the other one", Agreement(d, [][]uint64{w}), 2)
			want(t, "Agreement of both", Agreement(d, [][]uint64{v, w}), 1)
			want(t, "Agreement of one column twice", Agreement(d, [][]uint64{w, w}), 2)
			want(t, "Agreement of both and zeros", Agreement(d, [][]uint64{make([]uint64, 32), v, w}), 1)
		}
	}
}

// TestAgreementTellsTextsApart: polynomials whose coefficients, written one after the other, are the same digits.
func TestAgreementTellsTextsApart(t *testing.T) {
	d := api.Domain{Field: 2, K: 5, Shift: 11}
	v := pieces(d, [][]uint64{{1, 12}, {11, 2}, {112}, {0, 112}})
	want(t, "Agreement", Agreement(d, [][]uint64{v}), 1)
	w := pieces(d, [][]uint64{{0, 0, 0, 0, 0, 0, 0, 1}, {0, 0, 0, 0, 0, 0, 0, 12}, {0, 0, 0, 0, 0, 0, 0, 112}, {}})
	x := pieces(d, [][]uint64{{123}, {23}, {3}, {1123}})
	want(t, "Agreement of two columns", Agreement(d, [][]uint64{w, x}), 1)
	want(t, "Agreement of two columns the other way", Agreement(d, [][]uint64{x, w}), 1)
	// The same polynomials, in other columns.
	y, z := pieces(d, [][]uint64{{5}, {6}, {7}, {8}}), pieces(d, [][]uint64{{6}, {5}, {8}, {7}})
	want(t, "Agreement of columns that are exchanged", Agreement(d, [][]uint64{y, z}), 1)
}

func TestAgreementOfNoColumns(t *testing.T) {
	for f := range primes {
		for _, d := range domains(f, 0, 18) {
			want(t, "Agreement of no columns", Agreement(d, nil), 1<<d.K/8)
			want(t, "Agreement of an empty list of columns", Agreement(d, [][]uint64{}), 1<<d.K/8)
		}
	}
}

func TestAgreementOnTheGreatestDomains(t *testing.T) {
	for f, k := range exponents {
		d := api.Domain{Field: f, K: k, Shift: 1}
		v := Points(d)
		want(t, "Agreement of X", Agreement(d, [][]uint64{v}), 1<<k/8)
		v[0]++
		want(t, "Agreement of X with one error", Agreement(d, [][]uint64{v}), 1<<k/8-1)
		v[1<<k-1]++
		want(t, "Agreement of X with two errors", Agreement(d, [][]uint64{v, v}), 1<<k/8-2)
	}
}

func TestFibresThatAreNotThere(t *testing.T) {
	none := [8]uint64{}
	for f := range primes {
		for _, d := range domains(f, 0, 6) {
			v := slices.Repeat([]uint64{7}, 1<<d.K)
			for _, i := range wrongPlaces(1 << d.K / 8) {
				want(t, "Local of no fibre", Local(d, v, i), none)
			}
			for i := range 1 << d.K / 8 {
				want(t, "Local of a short list", Local(d, v[1:], i), none)
				want(t, "Local of a long list", Local(d, append(roomy(v), 7), i), none)
				want(t, "Local of twice the list", Local(d, slices.Repeat(v, 2), i), none)
				want(t, "Local of no list", Local(d, nil, i), none)
			}
			for _, wrong := range [][]uint64{nil, v[1:], append(roomy(v), 7), slices.Repeat(v, 2)} {
				want(t, "Agreement of a wrong list", Agreement(d, [][]uint64{wrong}), 0)
				want(t, "Agreement of a word and a wrong list", Agreement(d, [][]uint64{v, wrong}), 0)
				want(t, "Agreement of a wrong list and a word", Agreement(d, [][]uint64{wrong, v, v}), 0)
			}
			if d.K < 3 {
				want(t, "Local without fibres", Local(d, v, 0), none)
				want(t, "Agreement without fibres", Agreement(d, [][]uint64{v}), 0)
			}
		}
	}
}

func TestFibresWithoutADomain(t *testing.T) {
	for _, d := range noDomains() {
		want(t, "Agreement of no columns without a domain", Agreement(d, nil), 0)
		for _, n := range []int{0, 1, 8, 16, 32} {
			v := slices.Repeat([]uint64{7}, n)
			want(t, "Agreement without a domain", Agreement(d, [][]uint64{v, v}), 0)
			for _, i := range []int{-1, 0, 1} {
				want(t, "Local without a domain", Local(d, v, i), [8]uint64{})
			}
		}
	}
}
