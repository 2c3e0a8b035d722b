package gap

import (
	"attestor/api"
	"attestor/code"
	"attestor/field"
	"attestor/fold"
	"attestor/ratio"
)

// A domain has as many fibres as an eighth of its points, and its K is from leastK, below which there is no fibre, to mostK.
const (
	fibre  = 8
	leastK = 3
	mostK  = 6
)

// columnsError returns the error of columns on a domain.
func columnsError(d api.Domain, cols ...[]uint64) api.Errno {
	if !code.Valid(d) || d.K < leastK || len(cols) == 0 {
		return api.ErrArg
	}
	for _, v := range cols {
		if len(v) != code.Size(d) {
			return api.ErrArg
		}
	}
	if !isCounted(d.Field) || d.K > mostK {
		return api.ErrRange
	}
	return api.OK
}

// BadCombine returns for how many e the combination agrees in more than t fibres.
func BadCombine(d api.Domain, cols [][]uint64, t int) (int, api.Errno) {
	if e := columnsError(d, cols...); e != api.OK {
		return 0, e
	}
	return count(d.Field, func(e uint64) bool {
		return code.Agreement(d, [][]uint64{combination(d.Field, cols, e)}) > t
	}), api.OK
}

// BadFold returns for how many z the fold agrees in more than t places.
func BadFold(d api.Domain, v []uint64, t int) (int, api.Errno) {
	if e := columnsError(d, v); e != api.OK {
		return 0, e
	}
	return count(d.Field, func(z uint64) bool {
		w, _ := fold.Word(d, v, z) // no error: v is a word on a domain with fibres
		return bestAgreement(w) > t
	}), api.OK
}

// Passing returns the part of all challenges and positions that pass.
func Passing(d api.Domain, cols [][]uint64, queries int) (api.Ratio, api.Errno) {
	if e := columnsError(d, cols...); e != api.OK {
		return api.Ratio{}, e
	}
	if !isFrom(queries, 0, maxQueries) {
		return api.Ratio{}, api.ErrRange
	}
	pairs := make([]uint64, code.Size(d)/fibre+1) // at each place the number of the pairs with this best agreement
	folds := values(d.Field, func(e uint64) [][]uint64 {
		return locals(d, combination(d.Field, cols, e))
	})
	for w := range folds {
		pairs[bestAgreement(w)]++
	}
	return mean(d.Field, pairs, queries), api.OK
}

// mean returns the mean over all pairs of challenges of the part of the positions that pass. Its denominator divides the product of the square of P and a power of the number of fibres, which is far below the limit of a fraction.
func mean(f int, pairs []uint64, queries int) api.Ratio {
	p := field.P(f)
	sum, _ := ratio.Of(0, 1)
	for a, n := range pairs {
		part, _ := ratio.Of(n, p*p)
		part, _ = ratio.Mul(part, allIn(a, len(pairs)-1, queries))
		sum, _ = ratio.Add(sum, part)
	}
	return sum
}

// combination returns the sum of the columns, each one times the power of e with its number. All columns have the length of the first one.
func combination(f int, cols [][]uint64, e uint64) []uint64 {
	out := make([]uint64, len(cols[0]))
	for i := len(cols) - 1; i >= 0; i-- {
		for j, x := range cols[i] {
			out[j] = field.Add(f, field.Mul(f, out[j], e), x)
		}
	}
	return out
}

// locals returns the local polynomials of all fibres. Their values at z are the fold at z.
func locals(d api.Domain, v []uint64) [][]uint64 {
	out := make([][]uint64, len(v)/fibre)
	for i := range out {
		p := code.Local(d, v, i)
		out[i] = p[:]
	}
	return out
}

// bestAgreement returns how often the number that stands most often in a list stands in it.
func bestAgreement(l []uint64) int {
	counts := map[uint64]int{}
	for _, x := range l {
		counts[x]++
	}
	most := 0
	for _, n := range counts {
		most = max(most, n)
	}
	return most
}
