package tree

import (
	"math"
	"math/rand"
	"reflect"
	"slices"
	"testing"

	"attestor/api"
)

// The numbers of the fields, so that the tests compute without the program.
var (
	primes     = []uint64{97, 257, 12289, 998244353}
	generators = []uint64{5, 3, 11, 3}
	exponents  = []uint64{5, 3, 5, 3}
)

// noFields are numbers that are those of no field.
var noFields = []int{-1, -2, -4, 4, 5, 7, 8, 256, math.MinInt, math.MaxInt, math.MinInt32, math.MaxInt32}

// noNumbers are numbers that are those of no place in small trees, and no heights and caps of them.
var noNumbers = []int{math.MinInt, math.MinInt32, -256, -8, -2, -1, 19, 20, 31, 32, 62, 63, 64, 65, 256, 1 << 32, 1 << 62, math.MaxInt32, math.MaxInt}

const most = math.MaxUint64

// nodeOf returns the node of two proper digests, without the program.
func nodeOf(f int, l, r api.Digest) api.Digest {
	p := primes[f]
	s := [4]uint64{l[0], l[1], r[0], r[1]}
	power := uint64(1)
	for range 8 {
		for j := range s {
			power = power * generators[f] % p
			factor, product := (s[j]+power+7)%p, uint64(1)
			for range exponents[f] {
				product = product * factor % p
			}
			s[j] = product
		}
		s = [4]uint64{
			(2*s[0] + 3*s[1] + s[2] + s[3]) % p,
			(s[0] + 2*s[1] + 3*s[2] + s[3]) % p,
			(s[0] + s[1] + 2*s[2] + 3*s[3]) % p,
			(3*s[0] + s[1] + s[2] + 2*s[3]) % p,
		}
	}
	return api.Digest{(s[0] + l[0]) % p, (s[1] + l[1]) % p}
}

// treeOf returns the tree over 2^height leaves, without the program.
func treeOf(f int, leaves []api.Digest, cap int) api.Tree {
	t := api.Tree{Field: f, Cap: cap, Levels: [][]api.Digest{slices.Clone(leaves)}}
	for 1<<t.Height < len(leaves) {
		t.Height++
	}
	for l := range t.Height - cap {
		var level []api.Digest
		for i := range len(t.Levels[l]) / 2 {
			level = append(level, nodeOf(f, t.Levels[l][2*i], t.Levels[l][2*i+1]))
		}
		t.Levels = append(t.Levels, level)
	}
	return t
}

// climbOf returns the digest that a proper opening reaches, without the program.
func climbOf(f, i int, x api.Digest, path []api.Digest) api.Digest {
	power := 1
	for _, beside := range path {
		if i/power%2 == 1 {
			x = nodeOf(f, beside, x)
		} else {
			x = nodeOf(f, x, beside)
		}
		power *= 2
	}
	return x
}

// some returns n proper digests, more often than by chance with zeros and with the greatest elements.
func some(r *rand.Rand, f, n int) []api.Digest {
	l := make([]api.Digest, n)
	for i := range l {
		for j := range l[i] {
			few := []uint64{0, 1, primes[f] - 1, r.Uint64() % primes[f], r.Uint64() % primes[f], r.Uint64() % primes[f]}
			l[i][j] = few[r.Intn(len(few))]
		}
	}
	return l
}

// improper returns digests that are not proper.
func improper(f int) []api.Digest {
	p := primes[f]
	return []api.Digest{{p, 0}, {0, p}, {p, p}, {p + 1, p - 1}, {p - 1, 2 * p}, {most, 0}, {0, most}, {most, most}, {1 << 63, 5}, {5, 1 << 32}}
}

// anyTree returns a valid tree of proper digests, whose nodes are not those of the digests below them.
func anyTree(r *rand.Rand, f, height, cap int) api.Tree {
	t := api.Tree{Field: f, Height: height, Cap: cap}
	for l := range height - cap + 1 {
		t.Levels = append(t.Levels, some(r, f, 1<<(height-l)))
	}
	return t
}

// copyOf returns a tree that shares no memory with t.
func copyOf(t api.Tree) api.Tree {
	levels := t.Levels
	t.Levels = nil
	for _, level := range levels {
		t.Levels = append(t.Levels, slices.Clone(level))
	}
	return t
}

// sizes calls do with all heights up to most, and with the caps that they allow.
func sizes(most int, do func(height, cap int)) {
	for height := range most + 1 {
		for cap := range height + 1 {
			do(height, cap)
		}
	}
}

// want reports a result that is not the one that is wanted.
func want[T comparable](t *testing.T, what string, got, wanted T) {
	t.Helper()
	if got != wanted {
		t.Errorf("%s is %v, not %v", what, got, wanted)
	}
}

// wantList reports a list of digests that is not the one that is wanted; nil and empty lists are the same.
func wantList(t *testing.T, what string, got, wanted []api.Digest) {
	t.Helper()
	if !slices.Equal(got, wanted) {
		t.Errorf("%s is %v, not %v", what, got, wanted)
	}
}

// wantTree reports a tree that is not the one that is wanted.
func wantTree(t *testing.T, what string, got api.Tree, e api.Errno, wanted api.Tree) {
	t.Helper()
	if e != api.OK || !reflect.DeepEqual(got, wanted) {
		t.Errorf("%s is %v with the error %v, not %v", what, got, e, wanted)
	}
}

// wantNoTree reports a tree beside an error, and an error that is not the one that is wanted.
func wantNoTree(t *testing.T, what string, got api.Tree, e, wanted api.Errno) {
	t.Helper()
	if e != wanted || !reflect.DeepEqual(got, api.Tree{}) {
		t.Errorf("%s is %v with the error %v, not %v", what, got, e, wanted)
	}
}

// wantNoPath reports a path beside an error, and an error that is not the one that is wanted.
func wantNoPath(t *testing.T, what string, got []api.Digest, e, wanted api.Errno) {
	t.Helper()
	if e != wanted || got != nil {
		t.Errorf("%s is %v with the error %v, not %v", what, got, e, wanted)
	}
}

// collision returns two different pairs with the same node, in the field 0, the way from the one to the other beginning at a number.
func collision(start uint64) (x, y pair) {
	seen := map[api.Digest]pair{}
	for i := start; ; i++ {
		x = pair{{i % 97, i / 97 % 97}, {start % 97, i / 97 / 97 % 97}}
		node := nodeOf(0, x[0], x[1])
		if y, is := seen[node]; is && x != y {
			return x, y
		}
		seen[node] = x
	}
}
