package code

import (
	"math"
	"math/rand"
	"slices"
	"testing"

	"attestor/api"
)

// P5.2

func TestExtend(t *testing.T) {
	r := rand.New(rand.NewSource(52))
	for f, g := range exponents {
		for k := range min(6, g) + 1 {
			for b := range min(3, g-k) + 1 {
				narrow := api.Domain{Field: f, K: k, Shift: 1}
				wide := api.Domain{Field: f, K: k + b, Shift: generators[f]}
				var cols, wanted [][]uint64
				for _, p := range [][]uint64{nil, {7}, full(r, f, 1<<k), some(r, f, 1<<k), full(r, f, 1<<k/2+1)} {
					p = p[:min(len(p), 1<<k)]
					cols = append(cols, dressed(r, f, wordOf(narrow, p)))
					wanted = append(wanted, wordOf(wide, p))
				}
				for n := range len(cols) + 1 {
					got, e := Extend(f, cols[:n], b)
					want(t, "the error of Extend", e, api.OK)
					want(t, "whether Extend has the columns in their order", slices.EqualFunc(got, wanted[:n], slices.Equal), true)
				}
			}
		}
	}
}

func TestExtendToTheGreatestSizes(t *testing.T) {
	r := rand.New(rand.NewSource(53))
	for f, g := range exponents {
		for _, b := range []int{0, 2, g} {
			p := full(r, f, min(40, 1<<(g-b)))
			col := wordOf(api.Domain{Field: f, K: g - b, Shift: 1}, p)
			got, e := Extend(f, [][]uint64{col, col}, b)
			want(t, "the error of Extend", e, api.OK)
			want(t, "the number of columns", len(got), 2)
			for _, v := range got {
				want(t, "the length of a column", len(v), 1<<g)
				for i := 0; i < len(v); i += 1 + len(v)/60 {
					want(t, "a number of a column", v[i], value(f, p, point(api.Domain{Field: f, K: g, Shift: generators[f]}, i)))
				}
			}
		}
	}
}

func TestExtendOfNoColumns(t *testing.T) {
	for f := range primes {
		for _, b := range []int{math.MinInt, -1, 0, 1, 19, math.MaxInt} { // there is no column that could not be widened
			for _, none := range [][][]uint64{nil, {}} {
				got, e := Extend(f, none, b)
				wantNone(t, "Extend of no columns", got, e, api.OK)
			}
		}
	}
}

func TestErrorsOfExtendInTheirOrder(t *testing.T) {
	for f, g := range exponents {
		for _, b := range []int{math.MinInt, -1, 0, 1, 19, math.MaxInt} {
			for _, cols := range [][][]uint64{{{1}, {1, 2}}, {{1, 2}, {1}}, {{1, 2}, nil}, {nil, {1}}, {{1, 2}, {3, 4}, {5, 6, 7}}, {{1, 2, 3}, {1, 2}, {1, 2}}, {{1}, {2}, {3, 4}, {5}}} {
				got, e := Extend(f, cols, b)
				wantNone(t, "Extend of columns of different lengths", got, e, api.ErrArg)
			}
			for _, n := range []int{0, 3, 5, 6, 7, 12, 1<<g - 1, 1<<g + 1, 2 << g} {
				for _, cols := range [][][]uint64{{make([]uint64, n)}, {make([]uint64, n), make([]uint64, n)}} {
					got, e := Extend(f, cols, b)
					wantNone(t, "Extend of columns of a wrong length", got, e, api.ErrRange)
				}
			}
		}
		for k := range g + 1 {
			cols := [][]uint64{make([]uint64, 1<<k), make([]uint64, 1<<k)}
			for _, b := range []int{math.MinInt, -k - 1, -k, -2, -1, g - k + 1, g + 1, 19, 64, math.MaxInt - k, math.MaxInt} {
				if b < 0 || b > g-k {
					got, e := Extend(f, cols, b)
					wantNone(t, "Extend by so much", got, e, api.ErrRange)
				}
			}
		}
	}
	for _, f := range noFields {
		for _, cols := range [][][]uint64{nil, {}, {nil}, {{1}}, {{1, 2}, {3, 4}}, {{1}, {1, 2}}, {{1, 2, 3}}} {
			for _, b := range []int{-1, 0, 1, 19} {
				got, e := Extend(f, cols, b)
				wantNone(t, "Extend without a field", got, e, api.ErrArg)
			}
		}
	}
}

// P5.3

func TestIsWord(t *testing.T) {
	r := rand.New(rand.NewSource(54))
	for f := range primes {
		for _, d := range domains(f, 0, 6) {
			size := 1 << d.K
			for length := range size + 1 { // a polynomial with just so many coefficients
				v := dressed(r, f, wordOf(d, full(r, f, length)))
				for _, n := range []int{0, length - 1, length, length + 1, size - 1, size} {
					want(t, "IsWord", IsWord(d, v, n), n >= length && n <= size)
				}
				for _, n := range []int{math.MinInt, -size, -1, size + 1, 2 * size, 1 << 32, math.MaxInt} {
					want(t, "IsWord with a number out of its range", IsWord(d, v, n), false)
				}
			}
		}
	}
}

func TestIsWordOnTheGreatestDomains(t *testing.T) {
	for f, k := range exponents {
		d := api.Domain{Field: f, K: k, Shift: generators[f]}
		v := Points(d) // the word of X
		want(t, "IsWord of X with 2", IsWord(d, v, 2), true)
		want(t, "IsWord of X with 1", IsWord(d, v, 1), false)
		v[1<<k-1]++
		want(t, "IsWord of X with one error", IsWord(d, v, 1<<k-1), false)
		want(t, "IsWord of X with one error, and any degree", IsWord(d, v, 1<<k), true)
	}
}

func TestIsWordOfWrongLists(t *testing.T) {
	for f := range primes {
		for _, d := range domains(f, 0, 6) {
			for _, length := range []int{0, 1<<d.K - 1, 1<<d.K + 1, 1 << d.K / 2, 2 << d.K} {
				if length == 1<<d.K {
					continue
				}
				for _, n := range []int{0, 1, length, 1 << d.K} {
					want(t, "IsWord of a wrong length", IsWord(d, make([]uint64, length), n), false)
				}
			}
		}
	}
	for _, d := range noDomains() {
		for _, length := range []int{0, 1, 2, 8, 32} {
			for _, n := range []int{-1, 0, 1, length} {
				want(t, "IsWord without a domain", IsWord(d, make([]uint64, length), n), false)
			}
		}
	}
}

// P5.4

// spoilt returns a word with other numbers at the places where it is not known.
func spoilt(r *rand.Rand, f int, v []uint64, known []bool) []uint64 {
	out := dressed(r, f, v)
	for i := range out {
		if !known[i] {
			out[i] = r.Uint64()
		}
	}
	return out
}

func TestFill(t *testing.T) {
	r := rand.New(rand.NewSource(55))
	for f := range primes {
		for _, d := range domains(f, 0, 5) {
			size := 1 << d.K
			for n := range size + 1 {
				v := wordOf(d, some(r, f, n))
				for _, many := range []int{n, n + 1, (n + size) / 2, size} {
					known := flags(r, size, min(many, size))
					got, e := Fill(d, spoilt(r, f, v, known), known, n)
					wantOK(t, "Fill", got, e, v)
				}
			}
		}
	}
}

// TestFillAtJustSoManyPlaces: whatever n values are known, there is a word.
func TestFillAtJustSoManyPlaces(t *testing.T) {
	r := rand.New(rand.NewSource(56))
	for f := range primes {
		for _, d := range domains(f, 0, 6) {
			size := 1 << d.K
			for _, n := range []int{0, 1, size / 2, size - 1, size} {
				v, known := some(r, f, size), flags(r, size, n)
				got, e := Fill(d, v, known, n)
				want(t, "the error of Fill", e, api.OK)
				want(t, "the length of Fill", len(got), size)
				want(t, "whether Fill is of the degree", IsWord(d, got, n), true)
				for i, x := range got {
					if known[i] {
						want(t, "a known value", x, v[i]%primes[f])
					}
					want(t, "whether a value is an element", x < primes[f], true)
				}
			}
		}
	}
}

func TestFillWithOneWrongValue(t *testing.T) {
	r := rand.New(rand.NewSource(57))
	for f := range primes {
		for _, d := range domains(f, 0, 6) {
			size := 1 << d.K
			for _, n := range []int{0, 1, size / 2, size - 1} {
				for _, many := range []int{n + 1, size} {
					if n >= size {
						continue
					}
					known := flags(r, size, many)
					v := spoilt(r, f, wordOf(d, some(r, f, n)), known)
					wrong := r.Intn(size)
					for !known[wrong] {
						wrong = r.Intn(size)
					}
					v[wrong] -= 1 + r.Uint64()%(primes[f]-1)
					got, e := Fill(d, v, known, n)
					wantNone(t, "Fill with one wrong value", got, e, api.ErrNone)
				}
			}
		}
	}
}

func TestFillOfZeros(t *testing.T) {
	for f, p := range primes {
		for _, d := range domains(f, 2, 4) {
			v := slices.Repeat([]uint64{0, p, 2 * p, 7}, 1<<d.K/4)
			known := slices.Repeat([]bool{true, true, true, false}, 1<<d.K/4)
			got, e := Fill(d, v, known, 0)
			wantOK(t, "Fill of zeros", got, e, make([]uint64, 1<<d.K))
			got, e = Fill(d, slices.Repeat([]uint64{7}, 1<<d.K), make([]bool, 1<<d.K), 0)
			wantOK(t, "Fill where nothing is known", got, e, make([]uint64, 1<<d.K))
			known[1<<d.K-1] = true
			got, e = Fill(d, v, known, 0)
			wantNone(t, "Fill of zeros and one 7", got, e, api.ErrNone)
		}
	}
}

func TestTheLimitOfFill(t *testing.T) {
	for _, d := range []api.Domain{{Field: 2, K: 12, Shift: 1}, {Field: 3, K: 11, Shift: 3}, {Field: 3, K: 18, Shift: 5}} {
		size := 1 << d.K
		known := make([]bool, size)
		for i := range 1024 {
			known[size-1-2*i] = true
		}
		l := Points(d)
		got, e := Fill(d, l, known, 1024)
		wantOK(t, "Fill of X with 1024", got, e, l)
		all := slices.Repeat([]bool{true}, size)
		got, e = Fill(d, l, all, 1024)
		wantOK(t, "Fill of X with 1024, all known", got, e, l)
		for _, n := range []int{1025, 1026, size - 1, size} {
			for _, places := range [][]bool{all, known, make([]bool, size)} { // also where too few are known
				got, e = Fill(d, l, places, n)
				wantNone(t, "Fill with too great a number", got, e, api.ErrLimit)
			}
		}
		for _, n := range []int{-1, size + 1} {
			got, e = Fill(d, l, all, n)
			wantNone(t, "Fill with a number out of its range", got, e, api.ErrRange)
		}
	}
	d := api.Domain{Field: 2, K: 10, Shift: 11}
	got, e := Fill(d, Points(d), slices.Repeat([]bool{true}, 1024), 1024)
	wantOK(t, "Fill of X with as many places as the limit", got, e, Points(d))
}

func TestErrorsOfFillInTheirOrder(t *testing.T) {
	r := rand.New(rand.NewSource(58))
	for f := range primes {
		for _, d := range domains(f, 0, 5) {
			size := 1 << d.K
			v := some(r, f, size)
			for _, n := range wrongPlaces(size + 1) {
				for _, many := range []int{0, size} {
					got, e := Fill(d, v, flags(r, size, many), n)
					wantNone(t, "Fill with a number out of its range", got, e, api.ErrRange)
				}
			}
			for n := 1; n <= size; n++ {
				for _, many := range []int{0, n / 2, n - 1} {
					got, e := Fill(d, v, flags(r, size, many), n)
					wantNone(t, "Fill where too few are known", got, e, api.ErrShort)
				}
			}
			for _, n := range []int{-1, 0, 1, size, size + 1} {
				for _, length := range []int{0, size - 1, size + 1, 2 * size} {
					got, e := Fill(d, make([]uint64, length), make([]bool, size), n)
					wantNone(t, "Fill of a wrong list", got, e, api.ErrArg)
					got, e = Fill(d, v, make([]bool, length), n)
					wantNone(t, "Fill with a wrong list of places", got, e, api.ErrArg)
					got, e = Fill(d, make([]uint64, length), make([]bool, length), n)
					wantNone(t, "Fill with two wrong lists", got, e, api.ErrArg)
				}
			}
		}
	}
	for _, d := range noDomains() {
		for _, length := range []int{0, 1, 8, 32} {
			for _, n := range []int{-1, 0, 1, length, 1025} {
				got, e := Fill(d, make([]uint64, length), make([]bool, length), n)
				wantNone(t, "Fill without a domain", got, e, api.ErrArg)
			}
		}
	}
}

// P5.5

func TestDiffer(t *testing.T) {
	r := rand.New(rand.NewSource(59))
	for f, p := range primes {
		for n := range 40 {
			a := some(r, f, n)
			want(t, "Differ of the same list", Differ(f, a, a), 0)
			want(t, "Differ of the same elements", Differ(f, a, dressed(r, f, a)), 0)
			for m := range n + 1 {
				b := dressed(r, f, a)
				for _, i := range r.Perm(n)[:m] {
					b[i] = (b[i] + 1 + r.Uint64()%(p-1)) % p
					b[i] += p * uint64(r.Intn(4))
				}
				wanted := 0
				for i := range b {
					if a[i]%p != b[i]%p {
						wanted++
					}
				}
				want(t, "Differ", Differ(f, a, b), wanted)
				want(t, "Differ the other way", Differ(f, b, a), wanted)
			}
		}
	}
}

func TestDifferOfLengths(t *testing.T) {
	for f, p := range primes {
		for n := range 20 {
			for m := range 20 {
				a, b := slices.Repeat([]uint64{p}, n), make([]uint64, m) // zeros that only one has count too
				want(t, "Differ of zeros", Differ(f, a, b), max(n, m)-min(n, m))
				for i := range b {
					b[i] = 1
				}
				want(t, "Differ of zeros and ones", Differ(f, a, b), max(n, m))
			}
		}
		want(t, "Differ of no lists", Differ(f, nil, []uint64{}), 0)
		want(t, "Differ of a list and none", Differ(f, []uint64{0, 0, 0}, nil), 3)
	}
}

func TestDifferWithoutAField(t *testing.T) {
	for _, f := range noFields {
		for _, a := range [][]uint64{nil, {1}, {1, 2, 3}} {
			for _, b := range [][]uint64{nil, {2}, {4, 5, 6, 7}} {
				want(t, "Differ without a field", Differ(f, a, b), 0)
			}
		}
	}
}
