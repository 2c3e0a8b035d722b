package lowdegree

import (
	"math"
	"math/rand"
	"reflect"
	"slices"
	"testing"

	"attestor/api"
)

// The numbers of the fields, the exponents of their sponges and those of their greatest sizes, so that the tests compute without the program.
var (
	primes     = []uint64{97, 257, 12289, 998244353}
	generators = []uint64{5, 3, 11, 3}
	mixing     = []int{5, 3, 5, 3}
	exponents  = []int{5, 8, 12, 18}
)

// noFields are numbers that are those of no field.
var noFields = []int{-1, -2, -4, 4, 5, 7, 8, 256, math.MinInt, math.MaxInt, math.MinInt32, math.MaxInt32}

const most = math.MaxUint64

// power returns x^n, without the program.
func power(f int, x, n uint64) uint64 {
	out := uint64(1)
	for x %= primes[f]; n > 0; n >>= 1 {
		if n&1 == 1 {
			out = out * x % primes[f]
		}
		x = x * x % primes[f]
	}
	return out
}

// value returns the value at x, without the program.
func value(f int, p []uint64, x uint64) uint64 {
	sum := uint64(0)
	for _, c := range slices.Backward(p) {
		sum = (sum*(x%primes[f]) + c%primes[f]) % primes[f]
	}
	return sum
}

// point returns the point with the number i of a valid domain, without the program.
func point(d api.Domain, i int) uint64 {
	exponent := (primes[d.Field] - 1) >> d.K * uint64(i)
	return power(d.Field, generators[d.Field], exponent) * d.Shift % primes[d.Field]
}

// wordOf returns the word of a polynomial, without the program.
func wordOf(d api.Domain, p []uint64) []uint64 {
	out := make([]uint64, 1<<d.K)
	for i := range out {
		out[i] = value(d.Field, p, point(d, i))
	}
	return out
}

// through returns the n coefficients of the polynomial with a word, without the program: the one with the number j is the sum of y x^-j over all points, divided by their number.
func through(d api.Domain, v []uint64) []uint64 {
	f, p := d.Field, primes[d.Field]
	out, part := make([]uint64, len(v)), power(f, uint64(len(v)), p-2)
	for i, y := range v {
		x, term := power(f, point(d, i), p-2), y%p*part%p
		for j := range out {
			out[j] = (out[j] + term) % p
			term = term * x % p
		}
	}
	return out
}

// nextOf returns the next domain, without the program.
func nextOf(d api.Domain) api.Domain {
	return api.Domain{Field: d.Field, K: d.K - 3, Shift: power(d.Field, d.Shift, 8)}
}

// domainsOf returns the domains of the words of a key, without the program.
func domainsOf(k api.LowKey) []api.Domain {
	out := []api.Domain{k.Domain}
	for range k.Degree / 3 {
		out = append(out, nextOf(out[len(out)-1]))
	}
	return out
}

// leafOf returns the numbers of a leaf, without the program.
func leafOf(f int, v []uint64, i int) [8]uint64 {
	var out [8]uint64
	for j := range out {
		out[j] = v[i+j*len(v)/8] % primes[f]
	}
	return out
}

// atOf returns the folded value of the leaf with the number i, without the program: the leaf is a word of its own.
func atOf(d api.Domain, leaf [8]uint64, i int, z uint64) uint64 {
	alone := api.Domain{Field: d.Field, K: 3, Shift: point(d, i)}
	return value(d.Field, through(alone, leaf[:]), z)
}

// foldOf returns the fold of a word, without the program.
func foldOf(d api.Domain, v []uint64, z uint64) []uint64 {
	out := make([]uint64, len(v)/8)
	for i := range out {
		out[i] = atOf(d, leafOf(d.Field, v, i), i, z)
	}
	return out
}

// permOf returns the permutation of a state of elements, without the program.
func permOf(f int, s [4]uint64) [4]uint64 {
	p, constant := primes[f], uint64(1)
	for range 8 {
		for j := range s {
			constant = constant * generators[f] % p
			factor, product := (s[j]+constant+7)%p, uint64(1)
			for range mixing[f] {
				product = product * factor % p
			}
			s[j] = product
		}
		s = [4]uint64{
			(2*s[0] + 3*s[1] + s[2] + s[3]) % p,
			(s[0] + 2*s[1] + 3*s[2] + s[3]) % p,
			(s[0] + s[1] + 2*s[2] + 3*s[3]) % p,
			(3*s[0] + s[1] + s[2] + 2*s[3]) % p,
		}
	}
	return s
}

// digestOf returns the hash of a leaf, without the program.
func digestOf(f int, leaf [8]uint64) api.Digest {
	p := primes[f]
	s := [4]uint64{0, 0, 8, 0}
	for j := 0; j < len(leaf); j += 2 {
		s[0], s[1] = (s[0]+leaf[j]%p)%p, (s[1]+leaf[j+1]%p)%p
		s = permOf(f, s)
	}
	return api.Digest{s[0], s[1]}
}

// nodeOf returns the node of two proper digests, without the program.
func nodeOf(f int, l, r api.Digest) api.Digest {
	s := permOf(f, [4]uint64{l[0], l[1], r[0], r[1]})
	return api.Digest{(s[0] + l[0]) % primes[f], (s[1] + l[1]) % primes[f]}
}

// levelsOf returns the levels of the tree over the leaves of a word, up to the cap, without the program.
func levelsOf(f int, v []uint64, cap int) [][]api.Digest {
	var level []api.Digest
	for i := range len(v) / 8 {
		level = append(level, digestOf(f, leafOf(f, v, i)))
	}
	out := [][]api.Digest{level}
	for len(level) > 1<<cap {
		var above []api.Digest
		for pair := range slices.Chunk(level, 2) {
			above = append(above, nodeOf(f, pair[0], pair[1]))
		}
		out, level = append(out, above), above
	}
	return out
}

// climbOf returns the digest that is reached along a path, without the program.
func climbOf(f, i int, x api.Digest, path []api.Digest) api.Digest {
	for _, beside := range path {
		if i%2 == 1 {
			x = nodeOf(f, beside, x)
		} else {
			x = nodeOf(f, x, beside)
		}
		i /= 2
	}
	return x
}

// absorbOf returns a channel after numbers were absorbed, without the program.
func absorbOf(c api.Channel, l ...uint64) api.Channel {
	p := primes[c.Field]
	for j := range c.S {
		c.S[j] %= p
	}
	for _, x := range l {
		c.S[0], c.S[1] = (c.S[0]+x%p)%p, (c.S[1]+1)%p
		c.S = permOf(c.Field, c.S)
	}
	return c
}

// drawOf returns a channel after a draw, and the number, without the program.
func drawOf(c api.Channel) (api.Channel, uint64) {
	c.S[1] = (c.S[1] + 2) % primes[c.Field]
	c.S = permOf(c.Field, c.S)
	return c, c.S[0]
}

// capLevel returns the cap level of the round whose word is on a domain, without the program.
func capLevel(k api.LowKey, d api.Domain) int { return min(k.Cap, d.K-3) }

// flat returns the numbers of digests.
func flat(l []api.Digest) []uint64 {
	var out []uint64
	for _, d := range l {
		out = append(out, d[0], d[1])
	}
	return out
}

// commitOf returns what Commit has to return of a word of elements, without the program.
func commitOf(k api.LowKey, v []uint64, c api.Channel) (api.LowState, api.Channel, api.Errno) {
	s := api.LowState{Key: k}
	ds := domainsOf(k)
	c = absorbOf(c)
	for _, d := range ds[:len(ds)-1] {
		s.Words = append(s.Words, v)
		levels := levelsOf(d.Field, v, capLevel(k, d))
		s.Proof.Caps = append(s.Proof.Caps, levels[len(levels)-1])
		var z uint64
		c, z = drawOf(absorbOf(c, flat(levels[len(levels)-1])...))
		v = foldOf(d, v, z)
	}
	s.Words = append(s.Words, v)
	n := 1 << (k.Degree % 3)
	p := through(ds[len(ds)-1], v)
	if slices.ContainsFunc(p[n:], func(x uint64) bool { return x != 0 }) {
		return api.LowState{}, api.Channel{}, api.ErrNone
	}
	s.Proof.Final = p[:n]
	return s, absorbOf(c, p[:n]...), api.OK
}

// openOf returns what Open has to return of a valid state, without the program.
func openOf(s api.LowState, i int) api.LowOpen {
	var o api.LowOpen
	for j, d := range domainsOf(s.Key)[:s.Key.Degree/3] {
		at := i % (1 << d.K / 8)
		levels := levelsOf(d.Field, s.Words[j], capLevel(s.Key, d))
		var path []api.Digest
		for l, level := range levels[:len(levels)-1] {
			path = append(path, level[at>>l^1])
		}
		o.Leaves = append(o.Leaves, leafOf(d.Field, s.Words[j], at))
		o.Paths = append(o.Paths, path)
	}
	return o
}

// followOf returns what Follow has to return of a proof of a key's shape, without the program.
func followOf(p api.LowProof, c api.Channel) ([]uint64, api.Channel) {
	var zs []uint64
	c = absorbOf(c)
	for _, cap := range p.Caps {
		var z uint64
		c, z = drawOf(absorbOf(c, flat(cap)...))
		zs = append(zs, z)
	}
	return zs, absorbOf(c, p.Final...)
}

// goodOf returns the least good nonce from a number on, and the channel after it, without the program; false if there is none below 2^20 and P.
func goodOf(c api.Channel, from uint64, grind int) (uint64, api.Channel, bool) {
	for nonce := from; nonce < min(primes[c.Field], 1<<20); nonce++ {
		if after, x := drawOf(absorbOf(c, nonce)); x%(1<<grind) == 0 {
			return nonce, after, true
		}
	}
	return 0, api.Channel{}, false
}

// opensOf returns the openings of the positions that are drawn from a channel, without the program.
func opensOf(s api.LowState, queries int, c api.Channel) []api.LowOpen {
	var out []api.LowOpen
	for range queries {
		var x uint64
		c, x = drawOf(c)
		out = append(out, openOf(s, int(x%(1<<s.Key.Domain.K))))
	}
	return out
}

// elements returns the numbers modulo P.
func elements(f int, l []uint64) []uint64 {
	out := make([]uint64, len(l))
	for i, x := range l {
		out[i] = x % primes[f]
	}
	return out
}

// dressed returns numbers that are the same modulo P, most of them no elements.
func dressed(r *rand.Rand, f int, l []uint64) []uint64 {
	out := make([]uint64, len(l))
	for i, x := range l {
		out[i] = x%primes[f] + primes[f]*(r.Uint64()%(most/primes[f]))
	}
	return out
}

// some returns n elements, more often than by chance the least and the greatest ones.
func some(r *rand.Rand, f, n int) []uint64 {
	l := make([]uint64, n)
	for i := range l {
		few := []uint64{0, 1, primes[f] - 1, r.Uint64() % primes[f], r.Uint64() % primes[f], r.Uint64() % primes[f]}
		l[i] = few[r.Intn(len(few))]
	}
	return l
}

// digests returns n proper digests.
func digests(r *rand.Rand, f, n int) []api.Digest {
	out := make([]api.Digest, n)
	for i := range out {
		out[i] = api.Digest(some(r, f, 2))
	}
	return out
}

// anyChannel returns a channel of a field with any numbers.
func anyChannel(r *rand.Rand, f int) api.Channel {
	return api.Channel{Field: f, S: [4]uint64(dressed(r, f, some(r, f, 4)))}
}

// keys returns valid keys of a field, with K at most greatest.
func keys(r *rand.Rand, f, greatest int) []api.LowKey {
	var out []api.LowKey
	for k := range min(greatest, exponents[f]) + 1 {
		for degree := range k + 1 {
			for _, cap := range []int{0, 1, 2, 3, 18} {
				d := api.Domain{Field: f, K: k, Shift: 1 + r.Uint64()%(primes[f]-1)}
				out = append(out, api.LowKey{Domain: d, Degree: degree, Cap: cap})
			}
		}
	}
	return out
}

// noKeys returns keys that are not valid, for one reason or several.
func noKeys() []api.LowKey {
	var out []api.LowKey
	add := func(d api.Domain, degree, cap int) {
		out = append(out, api.LowKey{Domain: d, Degree: degree, Cap: cap})
	}
	wrong := []int{math.MinInt, math.MinInt32, -64, -3, -2, -1, 19, 20, 24, 63, 64, 1 << 32, math.MaxInt32, math.MaxInt}
	for f, p := range primes {
		for _, shift := range []uint64{0, p, p + 1, 2 * p, 1 << 32, most} {
			add(api.Domain{Field: f, K: 4, Shift: shift}, 3, 0)
		}
		for _, k := range append(slices.Clone(wrong), exponents[f]+1) {
			add(api.Domain{Field: f, K: k, Shift: 1}, 3, 0)
			add(api.Domain{Field: f, K: k, Shift: 1}, 0, 0)
			add(api.Domain{Field: f, K: k, Shift: 1}, k, 0)
		}
		for k := range exponents[f] + 1 {
			add(api.Domain{Field: f, K: k, Shift: 1}, k+1, 0)
		}
		for _, n := range wrong {
			add(api.Domain{Field: f, K: 4, Shift: 1}, n, 0)
			add(api.Domain{Field: f, K: 4, Shift: 1}, 3, n)
			add(api.Domain{Field: f, K: 4, Shift: 1}, n, n)
		}
	}
	for _, f := range noFields {
		for _, k := range []int{0, 3, 4} {
			add(api.Domain{Field: f, K: k, Shift: 1}, k, 0)
			add(api.Domain{Field: f, K: k}, 0, 0)
		}
	}
	add(api.Domain{}, 0, 0)
	return out
}

// wrongPlaces returns numbers that are not from 0 to n - 1.
func wrongPlaces(n int) []int {
	return []int{math.MinInt, math.MinInt32, -n - 1, -n, -8, -2, -1, n, n + 1, 2*n + 1, 8 * n, 1 << 40, math.MaxInt32, math.MaxInt}
}

// copyOf returns a value that shares no memory with x. Empty lists become nil, so that copies of equal things are deeply equal.
func copyOf[T any](x T) T {
	var deep func(v reflect.Value) reflect.Value
	deep = func(v reflect.Value) reflect.Value {
		out := reflect.New(v.Type()).Elem()
		switch v.Kind() {
		case reflect.Slice:
			for i := range v.Len() {
				out = reflect.Append(out, deep(v.Index(i)))
			}
		case reflect.Struct:
			for i := range v.NumField() {
				out.Field(i).Set(deep(v.Field(i)))
			}
		case reflect.Interface:
			out.Set(deep(v.Elem()))
		default:
			out.Set(v)
		}
		return out
	}
	return deep(reflect.ValueOf(&x).Elem()).Interface().(T)
}

// same reports whether two things are equal; nil and empty lists are the same.
func same[T any](a, b T) bool { return reflect.DeepEqual(copyOf(a), copyOf(b)) }

// want reports a result that is not the one that is wanted.
func want[T any](t *testing.T, what string, got, wanted T) {
	t.Helper()
	if same(got, wanted) {
		return
	}
	if reflect.TypeFor[T]().Size() > 64 {
		t.Errorf("%s is not the one that it should be", what)
	} else {
		t.Errorf("%s is %v, not %v", what, got, wanted)
	}
}

// memory adds to seen the places of the numbers in all lists of x, also of those behind their ends, and returns whether one was there already.
func memory(seen map[uintptr]bool, x any) bool {
	twice := false
	var visit func(v reflect.Value)
	visit = func(v reflect.Value) {
		switch v.Kind() {
		case reflect.Slice:
			whole := v.Slice(0, v.Cap())
			for i := range whole.Len() {
				at := whole.Index(i).Addr().Pointer()
				twice = twice || seen[at]
				seen[at] = true
				visit(whole.Index(i))
			}
		case reflect.Struct:
			for i := range v.NumField() {
				visit(v.Field(i))
			}
		}
	}
	visit(reflect.ValueOf(x))
	return twice
}

// wantApart calls f, and reports if that changes an argument, or if arguments and results share memory. The arguments share none.
func wantApart(t *testing.T, what string, args []any, f func() []any) {
	t.Helper()
	before := make([]any, len(args))
	seen := map[uintptr]bool{}
	for i, x := range args {
		before[i] = copyOf(x)
		want(t, what+": whether two arguments share memory", memory(seen, x), false)
	}
	for _, x := range f() {
		want(t, what+": whether a result shares memory", memory(seen, x), false)
	}
	for i, x := range args {
		want(t, what+": whether an argument stays", reflect.DeepEqual(copyOf(x), before[i]), true)
	}
}
