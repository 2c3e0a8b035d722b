package gap

import (
	"math"
	"math/big"
	"math/rand"
	"slices"
	"testing"

	"attestor/api"
	"attestor/ratio"
)

// P11.6

// sets returns the number of sets of t + 1 out of n things, without the program.
func sets(n, t int) int { return int(new(big.Int).Binomial(int64(n), int64(t+1)).Int64()) }

// checkTest holds BadCombine, BadFold and Passing of columns against their bounds, for all t from the agreements on.
func checkTest(t *testing.T, d api.Domain, cols [][]uint64) {
	t.Helper()
	fibres := 1 << d.K / 8
	for in := agreement(d, cols...); in <= fibres; in++ {
		got, e := BadCombine(d, cols, in)
		want(t, "the error of BadCombine", e, api.OK)
		if bound := sets(fibres, in) * (len(cols) - 1); got > bound {
			t.Errorf("BadCombine on %v with t %d is %d, more than %d", d, in, got, bound)
		}
	}
	for in := agreement(d, cols[0]); in <= fibres; in++ {
		got, e := BadFold(d, cols[0], in)
		want(t, "the error of BadFold", e, api.OK)
		if bound := 7 * sets(fibres, in); got > bound {
			t.Errorf("BadFold on %v with t %d is %d, more than %d", d, in, got, bound)
		}
	}
	for _, queries := range []int{1, 5} {
		part, e := Passing(d, cols, queries)
		want(t, "the error of Passing", e, api.OK)
		for in := agreement(d, cols...); in <= fibres; in++ {
			bound, e := Bound(d.Field, fibres, in, len(cols), queries)
			want(t, "the error of Bound", e, api.OK)
			if ratio.Order(part, bound) > 0 {
				t.Errorf("Passing on %v with %d queries is %s, more than %s with t %d", d, queries, ratio.Show(part), ratio.Show(bound), in)
			}
		}
	}
}

func TestTheTestIsBounded(t *testing.T) {
	r := rand.New(rand.NewSource(181))
	for _, d := range domains(3, 6) {
		for n := 1; n <= 3; n++ {
			checkTest(t, d, someColumns(r, d, n))
		}
	}
}

// TestTheTestOfColumnsThatMakeUp: columns of which many combinations agree in more fibres than the columns do. In each fibre the difference from a common polynomial has the factor e - x for chosen x, so that it is 0 for these e.
func TestTheTestOfColumnsThatMakeUp(t *testing.T) {
	r := rand.New(rand.NewSource(182))
	for f, p := range primes[:2] {
		for k := 4; k <= 5; k++ {
			for n := 2; n <= 9; n++ {
				d, fibres := api.Domain{Field: f, K: k, Shift: 6}, 1<<k/8
				xs := r.Perm(int(p))
				polys := make([][][]uint64, n) // by columns and fibres
				for i := range polys {
					polys[i] = make([][]uint64, fibres)
					for j := range fibres {
						polys[i][j] = make([]uint64, 8)
					}
				}
				for j := 1; j < fibres; j++ {
					var roots []uint64
					for range n - 1 {
						roots, xs = append(roots, uint64(xs[0])), xs[1:]
					}
					at := r.Intn(8)
					for i, c := range withRoots(f, uint64(j), roots...) {
						polys[i][j][at] = c
					}
				}
				cols := make([][]uint64, n)
				for i := range cols {
					cols[i] = dressed(r, f, pieces(d, polys[i]))
				}
				checkTest(t, d, cols)
				if k == 4 {
					got, e := BadCombine(d, cols, 1)
					wantCount(t, "BadCombine of two fibres", got, e, n-1) // as many as there can be
				}
			}
		}
	}
}

// TestTheFoldThatMeetsMostOften: two fibres that are different are folded to the same number by 7 of the z, as many as there can be.
func TestTheFoldThatMeetsMostOften(t *testing.T) {
	r := rand.New(rand.NewSource(183))
	for f, p := range primes[:2] {
		d := api.Domain{Field: f, K: 4, Shift: 1}
		for n := range 8 {
			var xs []uint64
			for _, x := range r.Perm(int(p))[:n] {
				xs = append(xs, uint64(x))
			}
			base := elements(r, f, 8)
			v := pieces(d, [][]uint64{base, plus(f, base, withRoots(f, 1+r.Uint64()%(p-1), xs...))})
			got, e := BadFold(d, v, 1)
			wantCount(t, "BadFold", got, e, n)
			checkTest(t, d, [][]uint64{v})
		}
	}
}

// P11.7

// isPermutation reports whether right is a permutation of left, where numbers count modulo P, without the program.
func isPermutation(f int, left, right [][]uint64) bool {
	normal := func(l [][]uint64) [][]uint64 {
		var out [][]uint64
		for _, v := range l {
			out = append(out, plus(f, v, nil))
		}
		slices.SortFunc(out, slices.Compare)
		return out
	}
	return slices.EqualFunc(normal(left), normal(right), slices.Equal)
}

// checkEqual holds Equal against P11.7.
func checkEqual(t *testing.T, f int, left, right [][]uint64) {
	t.Helper()
	all := int(primes[f] * primes[f])
	got, e := Equal(f, left, right)
	want(t, "the error of Equal", e, api.OK)
	if isPermutation(f, left, right) {
		want(t, "Equal of a permutation", got, all)
		return
	}
	bound, e := EqualBound(f, len(left), len(left[0]))
	want(t, "the error of EqualBound", e, api.OK)
	if fraction(bound).Cmp(big.NewRat(int64(got), int64(all))) < 0 {
		t.Errorf("Equal in the field %d of %v and %v is %d, more than %s", f, left, right, got, ratio.Show(bound))
	}
}

func TestEqualIsBounded(t *testing.T) {
	r := rand.New(rand.NewSource(184))
	for f := range primes[:2] {
		for n := 1; n <= 6; n++ {
			for width := 1; width <= 4; width++ {
				left := someTuples(r, f, n, width)
				right := shuffled(r, f, left)
				checkEqual(t, f, left, right)
				right[r.Intn(n)][r.Intn(width)]++
				checkEqual(t, f, left, right)
				checkEqual(t, f, left, someTuples(r, f, n, width))
				right = shuffled(r, f, left)
				right[0] = right[n-1] // the same tuples, one of them more often
				checkEqual(t, f, left, right)
			}
		}
	}
}

// TestEqualOfAsManyAsThereCanBe: two tuples whose values are the same for width - 1 of the d, and all c.
func TestEqualOfAsManyAsThereCanBe(t *testing.T) {
	r := rand.New(rand.NewSource(185))
	for f, p := range primes[:2] {
		for width := 2; width <= 8; width++ {
			var ds []uint64
			for _, x := range r.Perm(int(p))[:width-1] {
				ds = append(ds, uint64(x))
			}
			left := elements(r, f, width)
			right := plus(f, left, withRoots(f, 1, ds...))
			got, e := Equal(f, [][]uint64{left}, [][]uint64{right})
			wantCount(t, "Equal", got, e, (width-1)*int(p))
			checkEqual(t, f, [][]uint64{left}, [][]uint64{right})
		}
	}
}

// isFound reports whether each tuple stands among the tuples, modulo P, as often as the counts of the rows that are this tuple say, without the program.
func isFound(f int, tuples, table [][]uint64, counts []uint64) bool {
	same := func(v, w []uint64) bool { return slices.Equal(plus(f, v, nil), plus(f, w, nil)) }
	for _, v := range slices.Concat(tuples, table) {
		sum := uint64(0)
		for _, w := range tuples {
			if same(v, w) {
				sum++
			}
		}
		for i, w := range table {
			if same(v, w) {
				sum += primes[f] - counts[i]%primes[f]
			}
		}
		if sum%primes[f] != 0 {
			return false
		}
	}
	return true
}

// checkFound holds Found against P11.7.
func checkFound(t *testing.T, f int, tuples, table [][]uint64, counts []uint64) {
	t.Helper()
	got, e := Found(f, tuples, table, counts)
	want(t, "the error of Found", e, api.OK)
	if isFound(f, tuples, table, counts) {
		_, good := foundOf(f, tuples, table, counts)
		want(t, "Found of tuples of the table", got, good)
		return
	}
	bound, e := FoundBound(f, len(tuples), len(table), len(slices.Concat(tuples, table)[0]))
	want(t, "the error of FoundBound", e, api.OK)
	if fraction(bound).Cmp(big.NewRat(int64(got), int64(primes[f]*primes[f]))) < 0 {
		t.Errorf("Found in the field %d of %v in %v with %v is %d, more than %s", f, tuples, table, counts, got, ratio.Show(bound))
	}
}

// countsOf returns how often each row stands among the tuples; of rows that are the same, the first one has the whole number.
func countsOf(f int, tuples, table [][]uint64) []uint64 {
	out := make([]uint64, len(table))
	for _, v := range tuples {
		i := slices.IndexFunc(table, func(w []uint64) bool { return slices.Equal(plus(f, v, nil), plus(f, w, nil)) })
		if i >= 0 {
			out[i]++
		}
	}
	return out
}

func TestFoundIsBounded(t *testing.T) {
	r := rand.New(rand.NewSource(186))
	for f, p := range primes[:2] {
		for rows := 1; rows <= 5; rows++ {
			for width := 1; width <= 3; width++ {
				table := someTuples(r, f, rows, width)
				var tuples [][]uint64
				for range r.Intn(6) {
					tuples = append(tuples, dressed(r, f, table[r.Intn(rows)]))
				}
				counts := dressed(r, f, countsOf(f, tuples, table))
				want(t, "whether the tuples are those of the table", isFound(f, tuples, table, counts), true)
				checkFound(t, f, tuples, table, counts)
				wrong := slices.Clone(counts)
				wrong[r.Intn(rows)]++
				want(t, "whether the tuples are those of the table", isFound(f, tuples, table, wrong), false)
				checkFound(t, f, tuples, table, wrong)
				checkFound(t, f, append(tuples, elements(r, f, width)), table, counts)
				checkFound(t, f, tuples, table, elements(r, f, rows))
				checkFound(t, f, someTuples(r, f, 2, width), nil, nil)
				// A count may be spread over two rows that are the same.
				spread := append(slices.Clone(counts), r.Uint64()%p)
				spread[0] = (spread[0]%p + p - spread[rows]) % p
				checkFound(t, f, tuples, append(slices.Clone(table), dressed(r, f, table[0])), spread)
			}
		}
	}
}

// TestFoundOfOneTupleInAnother: the values are the same for width - 1 of the d, with each c that makes them not 0.
func TestFoundOfOneTupleInAnother(t *testing.T) {
	r := rand.New(rand.NewSource(187))
	for f, p := range primes[:2] {
		for width := 2; width <= 8; width++ {
			var ds []uint64
			for _, x := range r.Perm(int(p))[:width-1] {
				ds = append(ds, uint64(x))
			}
			left := elements(r, f, width)
			right := plus(f, left, withRoots(f, 1, ds...))
			got, e := Found(f, [][]uint64{left}, [][]uint64{right}, []uint64{1})
			wantCount(t, "Found", got, e, (width-1)*int(p-1))
			checkFound(t, f, [][]uint64{left}, [][]uint64{right}, []uint64{1})
		}
	}
}

func TestRootsAreNoMoreThanTheDegree(t *testing.T) {
	r := rand.New(rand.NewSource(188))
	for f, p := range primes[:2] {
		for range 300 {
			l := append(elements(r, f, r.Intn(12)), 1+r.Uint64()%(p-1))
			got, e := Roots(f, dressed(r, f, l))
			want(t, "the error of Roots", e, api.OK)
			if got > len(l)-1 {
				t.Errorf("Roots of %v in the field %d is %d", l, f, got)
			}
		}
	}
}

// P1

// answer is what the functions say of some arguments.
type answer struct {
	counts  [5]int
	bounds  [4]string
	errors  [9]api.Errno
	nothing bool // whether there is nothing beside an error
}

// ask calls all functions.
func ask(d api.Domain, numbers [4]int, cols, tuples [][]uint64, counts []uint64) answer {
	var a answer
	var l [4]api.Ratio
	f, v := d.Field, counts
	if len(cols) > 0 {
		v = cols[0]
	}
	l[0], a.errors[0] = Bound(f, numbers[0], numbers[1], numbers[2], numbers[3])
	l[1], a.errors[1] = Passing(d, cols, numbers[0])
	l[2], a.errors[2] = EqualBound(f, numbers[0], numbers[1])
	l[3], a.errors[3] = FoundBound(f, numbers[0], numbers[1], numbers[2])
	a.counts[0], a.errors[4] = BadCombine(d, cols, numbers[0])
	a.counts[1], a.errors[5] = BadFold(d, v, numbers[0])
	a.counts[2], a.errors[6] = Roots(f, v)
	a.counts[3], a.errors[7] = Equal(f, tuples, cols)
	a.counts[4], a.errors[8] = Found(f, cols, tuples, counts)
	a.nothing = true
	for i, x := range l {
		a.bounds[i] = ratio.Show(x)
		a.nothing = a.nothing && (a.errors[i] == api.OK) == ratio.Valid(x) && (a.errors[i] == api.OK || x.Num == nil && x.Den == nil)
	}
	for i, n := range a.counts {
		a.nothing = a.nothing && (a.errors[4+i] == api.OK || n == 0)
	}
	return a
}

func TestAllArgumentsHaveAnAnswerThatStays(t *testing.T) {
	r := rand.New(rand.NewSource(191))
	numbers := []int{math.MinInt, -64, -1, 0, 1, 2, 3, 4, 8, 32, 33, 64, 65, 1000, 1001, math.MaxInt}
	all := slices.Concat(noDomains(), farDomains(), domains(3, 6))
	for _, d := range all {
		size := 1 << max(0, min(d.K, 6))
		var ns [4]int
		for i := range ns {
			ns[i] = numbers[r.Intn(len(numbers))]
		}
		lists := func(n int) [][]uint64 {
			out := make([][]uint64, n)
			for i := range out {
				out[i] = make([]uint64, []int{0, 1, 8, size, size, size, size, size}[r.Intn(8)])
				for j := range out[i] {
					out[i][j] = r.Uint64()
				}
			}
			return out
		}
		cols, tuples, counts := lists(r.Intn(3)), lists(r.Intn(3)), []uint64{most, 5}[:r.Intn(3)]
		once := ask(d, ns, cols, tuples, counts)
		want(t, "the second answer", ask(d, ns, cols, tuples, counts), once)
		want(t, "whether there is nothing beside an error", once.nothing, true)
	}
}

// TestNilIsEmpty: nil and empty lists are the same.
func TestNilIsEmpty(t *testing.T) {
	none := [][]uint64{}
	for _, d := range slices.Concat(domains(3, 4), farDomains()[:4], noDomains()) {
		want(t, "the answer of empty lists", ask(d, [4]int{4, 2, 3, 1}, none, none, []uint64{}), ask(d, [4]int{4, 2, 3, 1}, nil, nil, nil))
		want(t, "the answer of lists of an empty list", ask(d, [4]int{}, [][]uint64{{}}, [][]uint64{{}}, []uint64{}), ask(d, [4]int{}, [][]uint64{nil}, [][]uint64{nil}, nil))
	}
}

// TestNumbersCountModuloP: answers do not change if the numbers are others that are the same modulo P.
func TestNumbersCountModuloP(t *testing.T) {
	r := rand.New(rand.NewSource(192))
	for _, d := range domains(3, 4) {
		for _, width := range []int{8, 1 << d.K} {
			cols := [][]uint64{elements(r, d.Field, width), elements(r, d.Field, width)}
			tuples, counts := [][]uint64{elements(r, d.Field, width), cols[0]}, elements(r, d.Field, 2)
			once := ask(d, [4]int{1, 1, 1, 1}, cols, tuples, counts)
			want(t, "the answer", ask(d, [4]int{1, 1, 1, 1}, dressedAll(r, d.Field, cols), dressedAll(r, d.Field, tuples), dressed(r, d.Field, counts)), once)
		}
	}
}

// Rule 3

// roomy returns a copy of a list with other numbers behind it, onto which a careless append would write.
func roomy(l []uint64) []uint64 { return append(slices.Clone(l), 11, 22, 33, 44)[:len(l)] }

// copies copies lists, with the memory behind each.
func copies(l ...[]uint64) [][]uint64 {
	out := make([][]uint64, len(l))
	for i, x := range l {
		out[i] = slices.Clone(x[:cap(x)])
	}
	return out
}

func TestArgumentsStay(t *testing.T) {
	r := rand.New(rand.NewSource(193))
	for _, d := range domains(3, 4) {
		for _, width := range []int{8, 1 << d.K} {
			lists := make([][]uint64, 6, 7)
			for i := range lists {
				lists[i] = roomy(dressed(r, d.Field, elements(r, d.Field, width)))
			}
			cols, tuples := lists[0:2], lists[3:5] // behind each there is another list, onto which a careless append would write
			counts := roomy([]uint64{most, 7})
			before := copies(append(lists, counts)...)
			ask(d, [4]int{1, 1, 1, 1}, cols, tuples, counts)
			want(t, "whether the arguments stay", slices.EqualFunc(copies(append(lists, counts)...), before, slices.Equal), true)
		}
	}
}

// TestResultsShareNoMemory overwrites each number of each fraction, with the memory behind it, and reports if that changes another one.
func TestResultsShareNoMemory(t *testing.T) {
	d := api.Domain{Field: 0, K: 4, Shift: 1}
	cols := [][]uint64{pieces(d, [][]uint64{{1}, {96}}), pieces(d, [][]uint64{{5}})}
	results := func() []api.Nat {
		var out []api.Nat
		for _, queries := range []int{0, 1, 64} { // without queries all results are 1
			a, _ := Bound(0, 4, 2, 3, queries)
			b, _ := Passing(d, cols, queries)
			c, _ := EqualBound(0, 200-3*queries, 1)
			e, _ := FoundBound(0, 100-queries, 1, 2)
			out = append(out, a.Num, a.Den, b.Num, b.Den, c.Num, c.Den, e.Num, e.Den)
		}
		return out
	}
	cloned := func(l []api.Nat) []api.Nat {
		var out []api.Nat
		for _, x := range l {
			out = append(out, slices.Clone(x))
		}
		return out
	}
	same := func(a, b []api.Nat) bool { return slices.EqualFunc(a, b, slices.Equal) }
	wanted := results()
	kept, all := cloned(wanted), append(results(), results()...)
	for i, mine := range all {
		before := cloned(all)
		before[i] = nil
		mine = mine[:cap(mine)]
		for j := range mine {
			mine[j] ^= math.MaxUint32
		}
		after := cloned(all)
		after[i] = nil
		want(t, "whether the other numbers stay", same(after, before), true)
		want(t, "whether the earlier numbers stay", same(wanted, kept), true)
		want(t, "whether later results stay", same(results(), kept), true)
	}
}

// The examples of the chapter

// wantShown reports a fraction whose text is not the one that is wanted, or an error.
func wantShown(t *testing.T, what string, got api.Ratio, e api.Errno, wanted string) {
	t.Helper()
	want(t, what, ratio.Show(got), wanted)
	want(t, "the error of "+what, e, api.OK)
}

func TestExamplesOfBounds(t *testing.T) {
	x, e := Bound(0, 4, 2, 3, 1)
	wantShown(t, "Bound with t 2", x, e, "169/194")
	x, e = Bound(0, 4, 4, 3, 1)
	wantShown(t, "Bound with t 4", x, e, "1/1")
	x, e = Bound(0, 4, 2, 3, 0)
	wantShown(t, "Bound with queries 0", x, e, "1/1")
	x, e = EqualBound(0, 4, 3)
	wantShown(t, "EqualBound(n 4, width 3)", x, e, "8/97")
	x, e = EqualBound(0, 200, 1)
	wantShown(t, "EqualBound(n 200, width 1)", x, e, "1/1")
	x, e = FoundBound(0, 2, 3, 2)
	wantShown(t, "FoundBound(n 2, rows 3, width 2)", x, e, "4/97")
}

func TestExamplesOfCounts(t *testing.T) {
	d := api.Domain{Field: 0, K: 4, Shift: 1}
	v := wordOf(d, []uint64{0, 0, 0, 0, 0, 0, 0, 0, 0, 1}) // X^9
	x, e := Passing(d, [][]uint64{v}, 1)
	wantShown(t, "Passing((X^9), 1 query)", x, e, "49/97")
	n, e := BadFold(d, v, 1)
	wantCount(t, "BadFold(X^9, 1)", n, e, 1)
	n, e = BadFold(d, v, 0)
	wantCount(t, "BadFold(X^9, 0)", n, e, 97)
	n, e = BadCombine(d, [][]uint64{v}, 1)
	wantCount(t, "BadCombine((X^9), 1)", n, e, 0)

	n, e = Roots(0, []uint64{96, 0, 1})
	wantCount(t, "Roots((96, 0, 1))", n, e, 2)
	n, e = Roots(0, nil)
	wantCount(t, "Roots(none)", n, e, 97)
	n, e = Equal(0, [][]uint64{{1}, {2}}, [][]uint64{{2}, {1}})
	wantCount(t, "Equal(((1), (2)), ((2), (1)))", n, e, 9409)
	n, e = Equal(0, [][]uint64{{1}}, [][]uint64{{2}})
	wantCount(t, "Equal(((1)), ((2)))", n, e, 0)
	n, e = Equal(0, [][]uint64{{1, 0}}, [][]uint64{{0, 1}})
	wantCount(t, "Equal(((1, 0)), ((0, 1)))", n, e, 97)
	n, e = Found(0, [][]uint64{{5}}, [][]uint64{{5}, {6}}, []uint64{1, 0})
	wantCount(t, "Found(((5)), ((5), (6)), (1, 0))", n, e, 9215)
	n, e = Found(0, [][]uint64{{5}}, [][]uint64{{6}}, []uint64{1})
	wantCount(t, "Found(((5)), ((6)), (1))", n, e, 0)
}
