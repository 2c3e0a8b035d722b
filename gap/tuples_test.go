package gap

import (
	"math"
	"math/rand"
	"slices"
	"testing"

	"attestor/api"
)

// P11.4

// valueOf returns the value of a tuple, without the program.
func valueOf(f int, v []uint64, c, d uint64) uint64 { return (c + value(f, v, d)) % primes[f] }

// equalOf returns what Equal counts, without the program.
func equalOf(f int, left, right [][]uint64) int {
	n := 0
	product := func(l [][]uint64, c, d uint64) uint64 {
		out := uint64(1)
		for _, v := range l {
			out = out * valueOf(f, v, c, d) % primes[f]
		}
		return out
	}
	for c := range primes[f] {
		for d := range primes[f] {
			if product(left, c, d) == product(right, c, d) {
				n++
			}
		}
	}
	return n
}

// foundOf returns what Found counts, and for how many pairs no value is 0, without the program.
func foundOf(f int, tuples, table [][]uint64, counts []uint64) (found, good int) {
	inverses := make([]uint64, primes[f])
	for x := range inverses {
		inverses[x] = inverse(f, uint64(x))
	}
	for c := range primes[f] {
		for d := range primes[f] {
			left, right, whole := uint64(0), uint64(0), true
			for _, v := range tuples {
				x := valueOf(f, v, c, d)
				left, whole = left+inverses[x], whole && x != 0
			}
			for i, v := range table {
				x := valueOf(f, v, c, d)
				right, whole = right+counts[i]%primes[f]*inverses[x], whole && x != 0
			}
			if whole {
				good++
			}
			if whole && left%primes[f] == right%primes[f] {
				found++
			}
		}
	}
	return found, good
}

// someTuples returns n tuples of which many are the same or differ in one number.
func someTuples(r *rand.Rand, f, n, width int) [][]uint64 {
	out := make([][]uint64, n)
	base := elements(r, f, width)
	for i := range out {
		v := slices.Clone(base)
		if r.Intn(3) > 0 {
			v[r.Intn(width)] += uint64(r.Intn(3))
		}
		if r.Intn(4) == 0 {
			v = elements(r, f, width)
		}
		out[i] = dressed(r, f, v)
	}
	return out
}

// shuffled returns the tuples in another order, with numbers that are the same modulo P.
func shuffled(r *rand.Rand, f int, l [][]uint64) [][]uint64 {
	out := dressedAll(r, f, l)
	r.Shuffle(len(out), func(i, j int) { out[i], out[j] = out[j], out[i] })
	return out
}

func TestRoots(t *testing.T) {
	r := rand.New(rand.NewSource(171))
	for f, p := range primes[:2] {
		for range 300 {
			l := elements(r, f, r.Intn(20))
			wanted := 0
			for x := range p {
				if value(f, l, x) == 0 {
					wanted++
				}
			}
			got, e := Roots(f, dressed(r, f, l))
			wantCount(t, "Roots", got, e, wanted)
		}
		for n := range int(p) + 1 {
			var xs []uint64
			for _, x := range r.Perm(int(p))[:n] {
				xs = append(xs, uint64(x))
			}
			got, e := Roots(f, dressed(r, f, withRoots(f, 1+r.Uint64()%(p-1), xs...)))
			wantCount(t, "Roots of a product", got, e, n)
		}
	}
}

// TestRootsOfZero: every element is a root of 0, however it is written.
func TestRootsOfZero(t *testing.T) {
	for f, p := range primes[:2] {
		for _, l := range [][]uint64{nil, {}, {0}, {p}, {0, 0, 0}, {p, 0, 5 * p, most / p * p}, make([]uint64, 1000)} {
			got, e := Roots(f, l)
			wantCount(t, "Roots of 0", got, e, int(p))
		}
		twice, e := Roots(f, withRoots(f, 3, 5, 5, 5, 0, 0)) // each once
		wantCount(t, "Roots", twice, e, 2)
		never, e := Roots(f, []uint64{p + 4, 0, p})
		wantCount(t, "Roots of a number", never, e, 0)
		all := make([]uint64, p+1) // X^P - X
		all[1], all[p] = p-1, 1
		got, e := Roots(f, all)
		wantCount(t, "Roots of X^P - X", got, e, int(p))
	}
}

func TestEqual(t *testing.T) {
	r := rand.New(rand.NewSource(172))
	for f := range primes[:2] {
		for _, n := range []int{0, 1, 2, 5} {
			for _, width := range []int{1, 2, 8} {
				left, right := someTuples(r, f, n, width), someTuples(r, f, n, width)
				got, e := Equal(f, left, right)
				wantCount(t, "Equal", got, e, equalOf(f, left, right))
				right = shuffled(r, f, left)
				if n > 0 {
					right[0][width-1]++ // may wrap around to another number
				}
				got, e = Equal(f, left, right)
				wantCount(t, "Equal of nearly the same", got, e, equalOf(f, left, right))
			}
		}
		left, right := someTuples(r, f, 32, 8), someTuples(r, f, 32, 8)
		got, e := Equal(f, left, right)
		wantCount(t, "Equal of the most tuples", got, e, equalOf(f, left, right))
	}
}

func TestEqualOfNothing(t *testing.T) {
	for f, p := range primes[:2] {
		got, e := Equal(f, nil, nil)
		wantCount(t, "Equal of no tuples", got, e, int(p*p))
		got, e = Equal(f, [][]uint64{}, nil)
		wantCount(t, "Equal of no tuples", got, e, int(p*p))
	}
}

func TestFound(t *testing.T) {
	r := rand.New(rand.NewSource(173))
	for f := range primes[:2] {
		for n := range 5 {
			for rows := range 4 {
				width := []int{1, 2, 3, 8}[r.Intn(4)]
				all := someTuples(r, f, n+rows, width)
				tuples, table, counts := all[:n], all[n:], dressed(r, f, elements(r, f, rows))
				if r.Intn(2) == 0 {
					counts = make([]uint64, rows)
					for i := range counts {
						counts[i] = uint64(r.Intn(3))
					}
				}
				wanted, _ := foundOf(f, tuples, table, counts)
				got, e := Found(f, tuples, table, counts)
				wantCount(t, "Found", got, e, wanted)
			}
		}
		tuples, table, counts := someTuples(r, f, 32, 8), someTuples(r, f, 32, 8), dressed(r, f, elements(r, f, 32))
		wanted, _ := foundOf(f, tuples, table, counts)
		got, e := Found(f, tuples, table, counts)
		wantCount(t, "Found of the most tuples", got, e, wanted)
	}
}

// TestFoundWithoutZeros: a pair does not count if a value is 0, even if it is that of a row with the count 0.
func TestFoundWithoutZeros(t *testing.T) {
	for f, p := range primes[:2] {
		n := int(p)
		for _, rows := range []int{0, 1, 2, 5, 32} {
			var table [][]uint64
			for i := range rows {
				table = append(table, []uint64{uint64(3 * i)})
			}
			for _, zero := range []uint64{0, p, 2 * p} {
				got, e := Found(f, nil, table, slices.Repeat([]uint64{zero}, rows))
				wantCount(t, "Found of unused rows", got, e, (n-rows)*n)
			}
			if rows > 0 {
				got, e := Found(f, table, table, slices.Repeat([]uint64{p + 1}, rows))
				wantCount(t, "Found of a table in itself", got, e, (n-rows)*n)
				got, e = Found(f, table[:1], nil, nil)
				wantCount(t, "Found without a table", got, e, 0)
			}
		}
		got, e := Found(f, [][]uint64{}, nil, []uint64{})
		wantCount(t, "Found of nothing", got, e, n*n)
		// Values are 0 for both of two tuples at once only where these meet: at P pairs each, but at the one with d = 1 together.
		got, e = Found(f, [][]uint64{{5, 0}, {4, 1}}, [][]uint64{{4, 1}, {5, 0}}, []uint64{1, 1})
		wantCount(t, "Found of crossing tuples", got, e, n*n-2*n+1)
	}
}

// Errors

// checkTuples calls Equal and Found with lists of the same length.
func checkTuples(t *testing.T, f int, left, right [][]uint64, wanted api.Errno) {
	t.Helper()
	got, e := Equal(f, left, right)
	wantNoCount(t, "Equal", got, e, wanted)
	got, e = Found(f, left, right, make([]uint64, len(right)))
	wantNoCount(t, "Found", got, e, wanted)
}

// alike returns n tuples.
func alike(n, width int) [][]uint64 {
	out := make([][]uint64, n)
	for i := range out {
		out[i] = make([]uint64, width)
	}
	return out
}

// badWidths returns pairs of lists of n tuples that have different widths or the width 0.
func badWidths(n int) [][2][][]uint64 {
	out := [][2][][]uint64{{alike(n, 0), alike(n, 0)}, {alike(n, 2), alike(n, 3)}, {alike(n, 1), alike(n, 0)}, {alike(n, 9), alike(n, 8)}}
	for i := range 2 {
		for _, at := range []int{0, n - 1} {
			for _, width := range []int{0, 1, 3, 9} {
				l := [2][][]uint64{alike(n, 2), alike(n, 2)}
				l[i][at] = make([]uint64, width)
				out = append(out, l)
			}
		}
	}
	return out
}

func TestErrorsOfTuplesInTheirOrder(t *testing.T) {
	for f := math.MinInt8; f <= math.MaxInt8; f++ {
		wanted := api.ErrArg
		if f == 0 || f == 1 {
			wanted = api.ErrLimit
		} else if f == 2 || f == 3 {
			wanted = api.ErrRange
		}
		checkTuples(t, f, alike(33, 1), alike(33, 1), wanted)
		checkTuples(t, f, alike(1, 9), alike(1, 9), wanted)
		checkTuples(t, f, alike(1000, 100), alike(1000, 100), wanted)
		if wanted != api.ErrLimit {
			checkTuples(t, f, alike(2, 2), alike(2, 2), wanted)
			checkTuples(t, f, nil, nil, wanted)
			for _, p := range [][]uint64{nil, {96, 0, 1}} {
				got, e := Roots(f, p)
				wantNoCount(t, "Roots", got, e, wanted)
			}
		}
		for _, n := range []int{1, 2, 33} {
			for _, l := range badWidths(n) {
				checkTuples(t, f, l[0], l[1], api.ErrArg)
			}
		}
	}
	for _, f := range noFields {
		checkTuples(t, f, alike(2, 2), alike(2, 2), api.ErrArg)
		got, e := Roots(f, []uint64{1, 1})
		wantNoCount(t, "Roots", got, e, api.ErrArg)
	}
}

func TestListsOfDifferentLengths(t *testing.T) {
	for _, f := range append([]int{0, 1, 2, 3}, noFields...) {
		for _, n := range [][2]int{{0, 1}, {1, 0}, {2, 3}, {32, 31}, {33, 32}, {5, 40}} {
			got, e := Equal(f, alike(n[0], 2), alike(n[1], 2))
			wantNoCount(t, "Equal", got, e, api.ErrArg)
			got, e = Found(f, alike(2, 2), alike(n[0], 2), make([]uint64, n[1]))
			wantNoCount(t, "Found", got, e, api.ErrArg)
		}
		got, e := Found(f, alike(2, 2), nil, []uint64{0})
		wantNoCount(t, "Found of a count without a row", got, e, api.ErrArg)
		got, e = Found(f, nil, alike(1, 1), nil)
		wantNoCount(t, "Found of a row without a count", got, e, api.ErrArg)
	}
}

// TestLimitsOfTuples: each list counts alone, and so does the width.
func TestLimitsOfTuples(t *testing.T) {
	for f, p := range primes[:2] {
		n := int(p)
		got, e := Equal(f, alike(32, 8), alike(32, 8))
		wantCount(t, "Equal of the most tuples", got, e, n*n)
		got, e = Found(f, alike(32, 8), alike(32, 8), slices.Repeat([]uint64{1}, 32))
		wantCount(t, "Found of the most tuples", got, e, n*n-n)
		got, e = Found(f, alike(33, 1), alike(1, 1), []uint64{33})
		wantNoCount(t, "Found of too many tuples", got, e, api.ErrLimit)
		got, e = Found(f, alike(1, 1), alike(33, 1), make([]uint64, 33))
		wantNoCount(t, "Found of too many rows", got, e, api.ErrLimit)
		got, e = Found(f, nil, alike(1, 9), []uint64{1})
		wantNoCount(t, "Found of too wide rows", got, e, api.ErrLimit)
		got, e = Found(f, alike(1, 9), nil, nil)
		wantNoCount(t, "Found of too wide tuples", got, e, api.ErrLimit)
		got, e = Found(f, nil, alike(33, 1), make([]uint64, 33))
		wantNoCount(t, "Found of too many rows alone", got, e, api.ErrLimit)
	}
}
