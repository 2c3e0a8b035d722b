package prover

import (
	"slices"

	"attestor/api"
	"attestor/system"
)

// A prover of its own, which does without the program, but for the words of systems.

// power returns x^n.
func power(f int, x, n uint64) uint64 {
	out := uint64(1)
	for x %= primes[f]; n > 0; n >>= 1 {
		if n&1 == 1 {
			out = out * x % primes[f]
		}
		x = x * x % primes[f]
	}
	return out
}

// inverse returns the inverse of an element that is not 0.
func inverse(f int, x uint64) uint64 { return power(f, x, primes[f]-2) }

// value returns the value of a polynomial at x.
func value(f int, p []uint64, x uint64) uint64 {
	sum := uint64(0)
	for _, c := range slices.Backward(p) {
		sum = (sum*x + c) % primes[f]
	}
	return sum
}

// coset returns the 2^k points of the coset of shift.
func coset(f, k int, shift uint64) []uint64 {
	w := power(f, generators[f], (primes[f]-1)>>k)
	out := []uint64{shift % primes[f]}
	for i := range 1<<k - 1 {
		out = append(out, out[i]*w%primes[f])
	}
	return out
}

// logarithm returns the k for which there are 2^k values.
func logarithm(v []uint64) int {
	k := 0
	for 1<<k < len(v) {
		k++
	}
	return k
}

// through returns the coefficients of the polynomial with values at the points of a coset: the one with the number j is the sum of y x^-j over all points, divided by their number.
func through(f int, shift uint64, v []uint64) []uint64 {
	out, part := make([]uint64, len(v)), inverse(f, uint64(len(v)))
	for i, x := range coset(f, logarithm(v), shift) {
		x, term := inverse(f, x), v[i]*part%primes[f]
		for j := range out {
			out[j] = (out[j] + term) % primes[f]
			term = term * x % primes[f]
		}
	}
	return out
}

// wideValues returns the values of a polynomial at the 2^k wide points.
func wideValues(f, k int, p []uint64) []uint64 {
	var out []uint64
	for _, x := range coset(f, k, generators[f]) {
		out = append(out, value(f, p, x))
	}
	return out
}

// wideOf returns the wide columns of columns.
func wideOf(f, blow int, l [][]uint64) [][]uint64 {
	var out [][]uint64
	for _, column := range l {
		out = append(out, wideValues(f, logarithm(column)+blow, through(f, 1, column)))
	}
	return out
}

// permOf returns the permutation of a state of elements.
func permOf(f int, s [4]uint64) [4]uint64 {
	p, constant := primes[f], uint64(1)
	for range 8 {
		for j := range s {
			constant = constant * generators[f] % p
			factor, product := (s[j]+constant+7)%p, uint64(1)
			for range mixing[f] {
				product = product * factor % p
			}
			s[j] = product
		}
		s = [4]uint64{
			(2*s[0] + 3*s[1] + s[2] + s[3]) % p,
			(s[0] + 2*s[1] + 3*s[2] + s[3]) % p,
			(s[0] + s[1] + 2*s[2] + 3*s[3]) % p,
			(3*s[0] + s[1] + s[2] + 2*s[3]) % p,
		}
	}
	return s
}

// hashOf returns the digest of a list that is not empty.
func hashOf(f int, l []uint64) api.Digest {
	p := primes[f]
	s := [4]uint64{0, 0, uint64(len(l)) % p, 0}
	for pair := range slices.Chunk(l, 2) {
		for j, x := range pair {
			s[j] = (s[j] + x%p) % p
		}
		s = permOf(f, s)
	}
	return api.Digest{s[0], s[1]}
}

// nodeOf returns the node of two digests.
func nodeOf(f int, l, r api.Digest) api.Digest {
	s := permOf(f, [4]uint64{l[0], l[1], r[0], r[1]})
	return api.Digest{(s[0] + l[0]) % primes[f], (s[1] + l[1]) % primes[f]}
}

// absorbOf returns a channel after numbers were absorbed.
func absorbOf(c api.Channel, l ...uint64) api.Channel {
	p := primes[c.Field]
	for _, x := range l {
		c.S[0], c.S[1] = (c.S[0]+x%p)%p, (c.S[1]+1)%p
		c.S = permOf(c.Field, c.S)
	}
	return c
}

// absorbCapOf returns a channel after digests were absorbed.
func absorbCapOf(c api.Channel, l []api.Digest) api.Channel {
	for _, d := range l {
		c = absorbOf(c, d[0], d[1])
	}
	return c
}

// drawOf returns a channel after a draw, and the number.
func drawOf(c api.Channel) (api.Channel, uint64) {
	c.S[1] = (c.S[1] + 2) % primes[c.Field]
	c.S = permOf(c.Field, c.S)
	return c, c.S[0]
}

// A commitment is columns with the levels of their tree, from the leaves to the cap.
type commitment struct {
	columns [][]uint64
	levels  [][]api.Digest
}

// committed returns the commitment to columns, with the cap level that a key asks for.
func committed(f int, l [][]uint64, cap int) commitment {
	out := commitment{columns: l}
	if len(l) == 0 {
		return out
	}
	var level []api.Digest
	for i := range l[0] {
		level = append(level, hashOf(f, out.row(i)))
	}
	out.levels = append(out.levels, level)
	for len(level) > 1<<cap {
		var above []api.Digest
		for pair := range slices.Chunk(level, 2) {
			above = append(above, nodeOf(f, pair[0], pair[1]))
		}
		out.levels, level = append(out.levels, above), above
	}
	return out
}

// cap returns the cap.
func (c commitment) cap() []api.Digest {
	if len(c.levels) == 0 {
		return nil
	}
	return c.levels[len(c.levels)-1]
}

// row returns the values of all columns in a row, and path its path.
func (c commitment) row(i int) []uint64 {
	var out []uint64
	for _, l := range c.columns {
		out = append(out, l[i])
	}
	return out
}

func (c commitment) path(i int) []api.Digest {
	var out []api.Digest
	for l := range max(0, len(c.levels)-1) {
		out = append(out, c.levels[l][i>>l^1])
	}
	return out
}

// asked returns the rows in which a constraint is asked.
func asked(rows int, on api.On) []int {
	var all []int
	for row := range 1 << rows {
		all = append(all, row)
	}
	last := len(all) - 1
	return map[api.On][]int{api.OnAll: all, api.OnSteps: all[:last], api.OnFirst: all[:1], api.OnLast: all[last:]}[on]
}

// inRow returns the environment of a wide row; with the Blow 0, of a row.
func inRow(w api.Wide, row int) api.Env {
	env := api.Env{Public: w.Public, Challenge: w.Challenge}
	next := (row + 1<<w.Blow) % len(w.Main[0])
	env.Main, env.Next = commitment{columns: w.Main}.row(row), commitment{columns: w.Main}.row(next)
	env.Aux, env.AuxNext = commitment{columns: w.Aux}.row(row), commitment{columns: w.Aux}.row(next)
	env.Fixed = commitment{columns: w.Fixed}.row(row)
	return env
}

// valueOf returns the value of a variable.
func valueOf(v api.Var, env api.Env) uint64 {
	return map[api.VarKind][]uint64{api.VarMain: env.Main, api.VarNext: env.Next, api.VarFixed: env.Fixed, api.VarPublic: env.Public}[v.Kind][v.Index]
}

// sumOf returns the value of a sum of monomials.
func sumOf(f int, l []api.Mono, env api.Env) uint64 {
	total := uint64(0)
	for _, x := range l {
		product := x.Coef
		for _, v := range x.Vars {
			product = product * valueOf(v, env) % primes[f]
		}
		total = (total + product) % primes[f]
	}
	return total
}

// weightOf returns the weight of a tuple, and productOf the product of the weights of tuples.
func weightOf(f int, vars []api.Var, env api.Env) uint64 {
	total, factor := env.Challenge[0], uint64(1)
	for _, v := range vars {
		total = (total + factor*valueOf(v, env)) % primes[f]
		factor = factor * env.Challenge[1] % primes[f]
	}
	return total
}

func productOf(f int, l [][]api.Var, env api.Env) uint64 {
	out := uint64(1)
	for _, vars := range l {
		out = out * weightOf(f, vars, env) % primes[f]
	}
	return out
}

// argumentsOf returns the argument columns of a trace, and false if they would divide by 0.
func argumentsOf(s api.System, x api.Trace, c, d uint64) ([][]uint64, bool) {
	w := api.Wide{Main: x.Main, Fixed: s.Fixed, Challenge: []uint64{c, d}}
	p, ok := primes[s.Field], true
	add := func(first uint64, next func(z uint64, env api.Env) uint64) []uint64 {
		column := []uint64{first}
		for row := range 1 << s.Rows {
			column = append(column, next(column[row], inRow(w, row)))
		}
		return column[:1<<s.Rows]
	}
	over := func(x uint64) uint64 {
		ok = ok && x != 0
		return inverse(s.Field, x)
	}
	var out [][]uint64
	for _, l := range s.Perms {
		out = append(out, add(1, func(z uint64, env api.Env) uint64 {
			return z * productOf(s.Field, l.Left, env) % p * over(productOf(s.Field, l.Right, env)) % p
		}))
	}
	for _, l := range s.Lookups {
		out = append(out, add(0, func(z uint64, env api.Env) uint64 {
			counted := valueOf(l.Count, env) * over(weightOf(s.Field, l.Table, env)) % p
			return (z + over(weightOf(s.Field, l.Tuple, env)) + p - counted) % p
		}))
	}
	return out, ok
}

// constraintsOf returns the values of all constraints, and in which rows each of them is asked.
func constraintsOf(s api.System, env api.Env) (values []uint64, on []api.On) {
	add := func(x uint64, in api.On) { values, on = append(values, x%primes[s.Field]), append(on, in) }
	p := primes[s.Field]
	for _, l := range s.Rules {
		add(sumOf(s.Field, l.Sum, env), l.On)
	}
	for i, l := range s.Perms {
		left, right := productOf(s.Field, l.Left, env), productOf(s.Field, l.Right, env)
		add(env.AuxNext[i]*right%p+p-env.Aux[i]*left%p, api.OnAll)
		add(env.Aux[i]+p-1, api.OnFirst)
	}
	for i, l := range s.Lookups {
		i += len(s.Perms)
		used, table := weightOf(s.Field, l.Tuple, env), weightOf(s.Field, l.Table, env)
		step := (env.AuxNext[i] + p - env.Aux[i]) % p * used % p * table % p
		add(step+p-table+valueOf(l.Count, env)*used%p, api.OnAll)
		add(env.Aux[i], api.OnFirst)
	}
	return values, on
}

// segmentsOf returns the wide columns of the composition.
func segmentsOf(s api.System, w api.Wide, a uint64) [][]uint64 {
	p, height := primes[s.Field], s.Rows+w.Blow
	points := coset(s.Field, s.Rows, 1)
	var v []uint64
	for i, x := range coset(s.Field, height, generators[s.Field]) {
		total, factor := uint64(0), uint64(1)
		values, on := constraintsOf(s, inRow(w, i))
		for j := range values {
			divisor := uint64(1)
			for _, row := range asked(s.Rows, on[j]) {
				divisor = divisor * (x + p - points[row]) % p
			}
			total = (total + factor*values[j]%p*inverse(s.Field, divisor)) % p
			factor = factor * a % p
		}
		v = append(v, total)
	}
	h := through(s.Field, generators[s.Field], v)
	var out [][]uint64
	for j := range max(1, degreeOf(s)-1) {
		out = append(out, wideValues(s.Field, height, h[j<<s.Rows:(j+1)<<s.Rows]))
	}
	return out
}

// foldOf returns the fold of a word on the coset of shift.
func foldOf(f int, shift uint64, word []uint64, z uint64) []uint64 {
	var out []uint64
	for i, x := range coset(f, logarithm(word), shift)[:len(word)/8] {
		leaf := commitment{columns: eighths(word)}.row(i)
		out = append(out, value(f, through(f, x, leaf), z))
	}
	return out
}

// eighths returns the columns whose rows are the leaves of a word.
func eighths(word []uint64) [][]uint64 { return slices.Collect(slices.Chunk(word, len(word)/8)) }

// zeroed returns a system with columns of zeros for its fixed ones.
func zeroed(s api.System) api.System {
	fixed := make([][]uint64, len(s.Fixed))
	for i := range fixed {
		fixed[i] = make([]uint64, 1<<s.Rows)
	}
	s.Fixed = fixed
	return s
}

// beginOf returns the beginning of the channel for a system.
func beginOf(s api.System, p api.Params, cap []api.Digest, public []uint64) api.Channel {
	c := absorbOf(api.Channel{Field: s.Field}, uint64(s.Field), uint64(s.Rows), uint64(p.Blow), uint64(p.Cap), uint64(p.Queries), uint64(p.Grind))
	words := hashOf(s.Field, system.Words(zeroed(s)))
	return absorbOf(absorbCapOf(absorbCapOf(c, cap), []api.Digest{words}), public...)
}

// A reference is a proof in the making, with all that leads to it.
type reference struct {
	s                      api.System
	p                      api.Params
	w                      api.Wide
	c                      api.Channel
	fixed, main, aux, comp commitment
	rounds                 []commitment
	out                    api.Proof
	positions              []int
}

// proofOf returns what Prove has to return of a system that holds of a trace.
func proofOf(s api.System, p api.Params, x api.Trace) (reference, api.Errno) {
	r := reference{s: s, p: p, w: api.Wide{Blow: p.Blow, Fixed: wideOf(s.Field, p.Blow, s.Fixed), Main: wideOf(s.Field, p.Blow, x.Main), Public: x.Public}}
	r.fixed, r.main = committed(s.Field, r.w.Fixed, p.Cap), committed(s.Field, r.w.Main, p.Cap)
	r.c = absorbCapOf(beginOf(s, p, r.fixed.cap(), x.Public), r.main.cap())
	r.out.Main = r.main.cap()
	if len(s.Perms)+len(s.Lookups) == 0 {
		r.c = absorbOf(r.c, 0)
	} else if !r.argue(x) {
		return r, api.ErrFull
	}
	var a, e uint64
	r.c, a = drawOf(r.c)
	r.comp = committed(s.Field, segmentsOf(s, r.w, a), p.Cap)
	r.out.Comp = r.comp.cap()
	r.c, e = drawOf(absorbCapOf(r.c, r.comp.cap()))
	r.test(e)
	if !r.grind() {
		return r, api.ErrFull
	}
	r.open()
	return r, api.OK
}

// argue adds the argument columns for the first salt that has some.
func (r *reference) argue(x api.Trace) bool {
	for salt := range min(1000, primes[r.s.Field]) {
		after, c := drawOf(absorbOf(r.c, salt))
		after, d := drawOf(after)
		if l, ok := argumentsOf(r.s, x, c, d); ok {
			r.w.Aux, r.w.Challenge = wideOf(r.s.Field, r.p.Blow, l), []uint64{c, d}
			r.aux = committed(r.s.Field, r.w.Aux, r.p.Cap)
			r.c = absorbCapOf(after, r.aux.cap())
			r.out.Salt, r.out.Aux = salt, r.aux.cap()
			return true
		}
	}
	return false
}

// test adds the rounds and the final coefficients.
func (r *reference) test(e uint64) {
	f := r.s.Field
	word, factor := make([]uint64, len(r.w.Main[0])), uint64(1)
	for _, column := range slices.Concat(r.w.Main, r.w.Aux, r.w.Fixed, r.comp.columns) {
		for i, x := range column {
			word[i] = (word[i] + factor*x) % primes[f]
		}
		factor = factor * e % primes[f]
	}
	shift, degree := generators[f], r.s.Rows
	for ; degree >= 3; degree -= 3 {
		round := committed(f, eighths(word), r.p.Cap)
		r.rounds, r.out.Rounds = append(r.rounds, round), append(r.out.Rounds, round.cap())
		var z uint64
		r.c, z = drawOf(absorbCapOf(r.c, round.cap()))
		word, shift = foldOf(f, shift, word, z), power(f, shift, 8)
	}
	r.out.Final = through(f, shift, word)[:1<<degree]
	r.c = absorbOf(r.c, r.out.Final...)
}

// grind adds the least good nonce.
func (r *reference) grind() bool {
	for nonce := range min(1<<20, primes[r.s.Field]) {
		if after, x := drawOf(absorbOf(r.c, nonce)); x%(1<<r.p.Grind) == 0 {
			r.c, r.out.Nonce = after, nonce
			return true
		}
	}
	return false
}

// open adds the openings.
func (r *reference) open() {
	for range r.p.Queries {
		var x uint64
		r.c, x = drawOf(r.c)
		i := int(x) % len(r.w.Main[0])
		next := (i + 1<<r.p.Blow) % len(r.w.Main[0])
		o := api.Opening{
			Fixed: r.fixed.row(i), Main: r.main.row(i), Aux: r.aux.row(i), Comp: r.comp.row(i), MainNext: r.main.row(next), AuxNext: r.aux.row(next),
			FixedPath: r.fixed.path(i), MainPath: r.main.path(i), AuxPath: r.aux.path(i), CompPath: r.comp.path(i), MainNextPath: r.main.path(next), AuxNextPath: r.aux.path(next),
		}
		for _, round := range r.rounds {
			at := i % len(round.columns[0])
			o.Folds = append(o.Folds, api.FoldOpening{Values: [8]uint64(round.row(at)), Path: round.path(at)})
		}
		r.positions, r.out.Openings = append(r.positions, i), append(r.out.Openings, o)
	}
}
