package lowdegree

import (
	"math/rand"
	"slices"
	"testing"

	"attestor/api"
)

// P10.4

// accepted is arguments of Check.
type accepted struct {
	k     api.LowKey
	p     api.LowProof
	zs    []uint64
	i     int
	value uint64
	o     api.LowOpen
}

// says returns what Check says of the arguments.
func (a accepted) says() bool { return Check(a.k, a.p, a.zs, a.i, a.value, a.o) }

// isFor reports whether an opening has the numbers of leaves, paths and their digests that a key asks for, all of them elements, without the program.
func isFor(k api.LowKey, o api.LowOpen) bool {
	rounds, p := k.Degree/3, primes[k.Domain.Field]
	if len(o.Leaves) != rounds || len(o.Paths) != rounds {
		return false
	}
	for j, d := range domainsOf(k)[:rounds] {
		if len(o.Paths[j]) != d.K-3-capLevel(k, d) || slices.Max(append(flat(o.Paths[j]), o.Leaves[j][:]...)) >= p {
			return false
		}
	}
	return true
}

// checkOf returns what Check has to say for a valid key and a proof of its shape, without the program.
func checkOf(a accepted) bool {
	f := a.k.Domain.Field
	ds, i, x := domainsOf(a.k), a.i, a.value%primes[f]
	if i < 0 || i >= 1<<a.k.Domain.K || len(a.zs) != len(ds)-1 || !isFor(a.k, a.o) {
		return false
	}
	for j, d := range ds[:len(ds)-1] {
		leaf, path, m := a.o.Leaves[j], a.o.Paths[j], 1<<d.K/8
		at := i % m
		if leaf[i/m] != x || climbOf(f, at, digestOf(f, leaf), path) != a.p.Caps[j][at>>len(path)] {
			return false
		}
		x, i = atOf(d, leaf, at, a.zs[j]), at
	}
	return x == value(f, a.p.Final, point(ds[len(ds)-1], i))
}

// honest returns arguments that Check has to accept, of a word of low degree.
func honest(r *rand.Rand, k api.LowKey) accepted {
	c := anyChannel(r, k.Domain.Field)
	s, _, _ := commitOf(k, lowWord(r, k.Domain, 1<<k.Degree), c)
	zs, _ := followOf(s.Proof, c)
	i := r.Intn(1 << k.Domain.K)
	return accepted{k, s.Proof, zs, i, s.Words[0][i], openOf(s, i)}
}

// changes returns arguments that differ from a in one thing, most of which Check has to refuse.
func changes(r *rand.Rand, a accepted) []accepted {
	var out []accepted
	f := a.k.Domain.Field
	change := func(do func(b *accepted)) {
		b := copied(a)
		do(&b)
		out = append(out, b)
	}
	other := func(x *uint64) { *x = (*x + 1 + r.Uint64()%(primes[f]-1)) % primes[f] }
	change(func(b *accepted) { other(&b.value) })
	change(func(b *accepted) { b.i = r.Intn(1 << a.k.Domain.K) })
	change(func(b *accepted) { b.i ^= 1 })
	change(func(b *accepted) { b.i ^= 1 << a.k.Domain.K >> 1 })
	change(func(b *accepted) { b.p.Final = some(r, f, len(b.p.Final)) })
	for j := range a.zs {
		change(func(b *accepted) { other(&b.zs[j]) })
		change(func(b *accepted) { other(&b.o.Leaves[j][r.Intn(8)]) })
		change(func(b *accepted) { b.o.Leaves[j] = [8]uint64(some(r, f, 8)) })
		for l := range a.o.Paths[j] {
			change(func(b *accepted) { other(&b.o.Paths[j][l][r.Intn(2)]) })
		}
		n := len(a.p.Caps[j])
		change(func(b *accepted) { other(&b.p.Caps[j][r.Intn(n)][r.Intn(2)]) })
		change(func(b *accepted) { b.p.Caps[j] = digests(r, f, n) })
		change(func(b *accepted) { slices.Reverse(b.p.Caps[j]) })
		change(func(b *accepted) { slices.Reverse(b.o.Leaves[j][:]) })
		change(func(b *accepted) { slices.Reverse(b.o.Paths[j]) })
	}
	change(func(b *accepted) { slices.Reverse(b.o.Leaves) })
	change(func(b *accepted) { slices.Reverse(b.o.Paths) })
	change(func(b *accepted) { slices.Reverse(b.zs) })
	return out
}

// copied returns arguments that share no memory with a.
func copied(a accepted) accepted {
	a.p, a.zs, a.o = copyOf(a.p), copyOf(a.zs), copyOf(a.o)
	return a
}

func TestCheck(t *testing.T) {
	r := rand.New(rand.NewSource(162))
	refused := 0
	for f := range primes {
		for _, k := range keys(r, f, 7) {
			a := honest(r, k)
			want(t, "Check of an honest opening", a.says(), true)
			dress := a
			dress.value, dress.zs = dressed(r, f, []uint64{a.value})[0], dressed(r, f, a.zs)
			want(t, "Check with numbers that are no elements", dress.says(), true)
			for _, b := range changes(r, a) {
				wanted := checkOf(b)
				want(t, "Check after a change", b.says(), wanted)
				if !wanted {
					refused++
				}
			}
		}
	}
	if refused < 1000 {
		t.Errorf("only %d changes are to be refused", refused)
	}
}

// TestCheckOfWrongNumbers changes what is to be refused whatever the other arguments are.
func TestCheckOfWrongNumbers(t *testing.T) {
	r := rand.New(rand.NewSource(163))
	for f := range primes {
		for _, k := range keys(r, f, 7) {
			a := honest(r, k)
			no := func(what string, do func(b *accepted)) {
				t.Helper()
				b := copied(a)
				do(&b)
				want(t, "Check with "+what, b.says(), false)
			}
			for _, i := range wrongPlaces(1 << k.Domain.K) {
				no("no position", func(b *accepted) { b.i = i })
			}
			no("a position that is right modulo the size", func(b *accepted) { b.i += 1 << k.Domain.K })
			no("a negative position", func(b *accepted) { b.i -= 1 << k.Domain.K })
			no("a challenge too many", func(b *accepted) { b.zs = append(b.zs, 5) })
			no("a leaf too many", func(b *accepted) { b.o.Leaves = append(b.o.Leaves, [8]uint64{}) })
			no("a path too many", func(b *accepted) { b.o.Paths = append(b.o.Paths, nil) })
			no("one more of both", func(b *accepted) {
				b.o.Leaves, b.o.Paths = append(b.o.Leaves, [8]uint64{}), append(b.o.Paths, nil)
			})
			for _, p := range append(otherShapes(k, a.p), api.LowProof{}) {
				no("a proof of another shape", func(b *accepted) { b.p = p })
			}
			for j := range a.zs {
				no("a challenge too few", func(b *accepted) { b.zs = slices.Delete(b.zs, j, j+1) })
				no("a leaf too few", func(b *accepted) { b.o.Leaves = slices.Delete(b.o.Leaves, j, j+1) })
				no("a path too few", func(b *accepted) { b.o.Paths = slices.Delete(b.o.Paths, j, j+1) })
				no("nothing of a round", func(b *accepted) {
					b.zs, b.o = slices.Delete(b.zs, j, j+1), api.LowOpen{Leaves: slices.Delete(b.o.Leaves, j, j+1), Paths: slices.Delete(b.o.Paths, j, j+1)}
				})
				for n := range 8 { // the digest of such a leaf is the same
					no("a leaf's number that is no element", func(b *accepted) { b.o.Leaves[j][n] += primes[f] })
				}
				for l := range a.o.Paths[j] {
					no("a path's digest that is not proper", func(b *accepted) { b.o.Paths[j][l][l%2] += primes[f] })
				}
			}
		}
	}
	a := honest(r, api.LowKey{Domain: api.Domain{Field: 0, K: 4, Shift: 1}, Degree: 3})
	for _, k := range noKeys() {
		b := a
		b.k = k
		want(t, "Check with a key that is not valid", b.says(), false)
		want(t, "Check of nothing with a key that is not valid", accepted{k: k}.says(), false)
	}
}

// TestCheckOfOtherPaths makes caps to which paths of another length lead: only their number of digests is wrong.
func TestCheckOfOtherPaths(t *testing.T) {
	r := rand.New(rand.NewSource(164))
	longer, shorter := 0, 0
	for f := range primes {
		for _, k := range keys(r, f, 8) {
			a := honest(r, k)
			for j, d := range domainsOf(k)[:k.Degree/3] {
				at := a.i % (1 << d.K / 8)
				lead := func(path []api.Digest) bool {
					over := at >> len(path)
					if over >= len(a.p.Caps[j]) {
						return false
					}
					b := copied(a)
					b.o.Paths[j] = path
					b.p.Caps[j][over] = climbOf(f, at, digestOf(f, a.o.Leaves[j]), path)
					want(t, "Check with a path that leads to the cap", b.says(), len(path) == len(a.o.Paths[j]))
					return true
				}
				path := a.o.Paths[j]
				lead(slices.Clone(path))
				if lead(slices.Concat(path, digests(r, f, 1))) {
					longer++
				}
				if len(path) > 0 && lead(path[:len(path)-1]) {
					shorter++
				}
			}
		}
	}
	if longer < 100 || shorter < 100 {
		t.Errorf("only %d longer and %d shorter paths", longer, shorter)
	}
}

// P10.5

// proveOf returns what Prove has to return, without the program.
func proveOf(k api.LowKey, v []uint64, queries, grind int, c api.Channel) (api.LowTest, api.Errno) {
	s, c, e := commitOf(k, v, c)
	if e != api.OK {
		return api.LowTest{}, e
	}
	nonce, c, ok := goodOf(c, 0, grind)
	if !ok {
		return api.LowTest{}, api.ErrFull
	}
	return api.LowTest{Proof: s.Proof, Nonce: nonce, Opens: opensOf(s, queries, c)}, api.OK
}

// verifyOf returns what Verify has to say of a test whose proof has the shape of its key, without the program.
func verifyOf(k api.LowKey, x api.LowTest, queries, grind int, c api.Channel) bool {
	zs, c := followOf(x.Proof, c)
	c, drawn := drawOf(absorbOf(c, x.Nonce))
	if x.Nonce >= primes[c.Field] || drawn%(1<<grind) != 0 || len(x.Opens) != queries {
		return false
	}
	for _, o := range x.Opens {
		c, drawn = drawOf(c)
		i := int(drawn % (1 << k.Domain.K))
		if !isFor(k, o) || !checkOf(accepted{k, x.Proof, zs, i, o.Leaves[0][i/(1<<k.Domain.K/8)], o}) {
			return false
		}
	}
	return true
}

// testKeys returns the keys of a field with which there are whole tests.
func testKeys(r *rand.Rand, f, greatest int) []api.LowKey {
	return slices.DeleteFunc(keys(r, f, greatest), func(k api.LowKey) bool { return k.Degree < 3 })
}

func TestProve(t *testing.T) {
	r := rand.New(rand.NewSource(165))
	seen := map[api.Errno]int{}
	for f := range primes {
		for _, k := range testKeys(r, f, 7) {
			for _, v := range [][]uint64{lowWord(r, k.Domain, 1<<k.Degree), some(r, f, 1<<k.Domain.K)} {
				queries, grind, c := r.Intn(4), []int{0, 3, 8, 9}[r.Intn(4)], anyChannel(r, f)
				wanted, e := proveOf(k, v, queries, grind, c)
				got, gotE := Prove(k, dressed(r, f, v), queries, grind, c)
				want(t, "the error of Prove", gotE, e)
				want(t, "Prove", got, wanted)
				seen[e]++
			}
		}
	}
	for _, e := range []api.Errno{api.OK, api.ErrNone, api.ErrFull} {
		if seen[e] < 10 {
			t.Errorf("Prove has to return %v only %d times", e, seen[e])
		}
	}
}

func TestProveWithMostOfAll(t *testing.T) {
	r := rand.New(rand.NewSource(166))
	for f := range primes {
		k := api.LowKey{Domain: api.Domain{Field: f, K: 5, Shift: 2}, Degree: 4, Cap: 1}
		v, c := lowWord(r, k.Domain, 16), anyChannel(r, f)
		wanted, e := proveOf(k, v, 64, 0, c)
		got, gotE := Prove(k, v, 64, 0, c)
		want(t, "the error of Prove with 64 queries", gotE, e)
		want(t, "Prove with 64 queries", got, wanted)
		want(t, "Verify with 64 queries", Verify(k, got, 64, 0, c), true)
	}
	// In small fields all nonces can be tried. With 20 bits only the number 0 is drawn after a good one.
	full, good := 0, 0
	k := api.LowKey{Domain: api.Domain{Field: 0, K: 4, Shift: 2}, Degree: 3}
	for full < 5 || good < 5 {
		v, c := lowWord(r, k.Domain, 8), anyChannel(r, 0)
		wanted, e := proveOf(k, v, 2, 20, c)
		got, gotE := Prove(k, v, 2, 20, c)
		want(t, "the error of Prove with 20 bits", gotE, e)
		want(t, "Prove with 20 bits", got, wanted)
		want(t, "Verify with 20 bits", Verify(k, got, 2, 20, c), e == api.OK)
		if e == api.OK {
			good++
		} else {
			full++
		}
	}
}

func TestErrorsOfProveInTheirOrder(t *testing.T) {
	r := rand.New(rand.NewSource(167))
	no := func(what string, k api.LowKey, v []uint64, queries, grind int, c api.Channel, wanted api.Errno) {
		t.Helper()
		x, e := Prove(k, v, queries, grind, c)
		want(t, "Prove with "+what, x, api.LowTest{})
		want(t, "the error of Prove with "+what, e, wanted)
	}
	for _, k := range noKeys() {
		no("a key that is not valid", k, make([]uint64, 16), 1, 0, api.Channel{Field: k.Domain.Field}, api.ErrArg)
	}
	for f := range primes {
		for _, k := range keys(r, f, 5) {
			bad, c := some(r, f, 1<<k.Domain.K), anyChannel(r, f)
			if k.Degree < 3 {
				no("a degree below 8", k, make([]uint64, len(bad)), 1, 0, c, api.ErrArg)
				continue
			}
			for _, n := range wrongPlaces(65) {
				no("a wrong number of queries", k, bad, n, 0, c, api.ErrArg)
			}
			for _, n := range wrongPlaces(21) {
				no("a wrong number of bits", k, bad, 1, n, c, api.ErrArg)
			}
			no("a list that is no word", k, bad[1:], 1, 0, c, api.ErrArg)
			no("a list that is no word", k, append(bad, 0), 1, 0, c, api.ErrArg)
			no("a channel of another field", k, bad, 1, 0, api.Channel{Field: (f + 1) % 4}, api.ErrArg)
		}
	}
	// A word that is not of low degree comes before a nonce that is not there.
	k := api.LowKey{Domain: api.Domain{Field: 0, K: 5, Shift: 2}, Degree: 3}
	for range 50 {
		v, c := some(r, 0, 32), anyChannel(r, 0)
		if _, _, e := commitOf(k, v, c); e == api.ErrNone {
			no("a word of high degree", k, v, 1, 20, c, api.ErrNone)
		}
	}
}

// TestProveTriesManyNonces has a channel with the least good nonce just below 2^20, and one without a good nonce below 2^20, though the field has more elements.
func TestProveTriesManyNonces(t *testing.T) {
	k := api.LowKey{Domain: api.Domain{Field: 3, K: 3, Shift: 3}, Degree: 3}
	v := slices.Repeat([]uint64{7}, 8)
	c := api.Channel{Field: 3, S: [4]uint64{4, 0, 0, 0}}
	x, e := Prove(k, v, 1, 20, c)
	want(t, "the error of Prove", e, api.OK)
	want(t, "the nonce", x.Nonce, 986254)
	want(t, "Verify", Verify(k, x, 1, 20, c), true)
	x, e = Prove(k, v, 1, 20, api.Channel{Field: 3, S: [4]uint64{7, 0, 0, 0}})
	want(t, "Prove without a nonce", x, api.LowTest{})
	want(t, "the error of Prove without a nonce", e, api.ErrFull)
}

func TestVerify(t *testing.T) {
	r := rand.New(rand.NewSource(168))
	refused := 0
	for f := range primes {
		for _, k := range testKeys(r, f, 7) {
			queries, grind, c := 1+r.Intn(3), r.Intn(4), anyChannel(r, f)
			x, e := proveOf(k, lowWord(r, k.Domain, 1<<k.Degree), queries, grind, c)
			if e != api.OK {
				continue
			}
			want(t, "Verify of an honest test", Verify(k, x, queries, grind, c), true)
			for _, y := range testChanges(r, k, x) {
				wanted := verifyOf(k, y, queries, grind, c)
				want(t, "Verify after a change", Verify(k, y, queries, grind, c), wanted)
				if !wanted {
					refused++
				}
			}
			for _, n := range []int{queries - 1, queries + 1} {
				want(t, "Verify with another number of queries", Verify(k, x, n, grind, c), false)
			}
			for n := range 21 {
				want(t, "Verify with other bits", Verify(k, x, queries, n, c), verifyOf(k, x, queries, n, c))
			}
			other := anyChannel(r, f)
			want(t, "Verify with another channel", Verify(k, x, queries, grind, other), verifyOf(k, x, queries, grind, other))
			for _, g := range append([]int{0, 1, 2, 3}, noFields...) {
				if g != f {
					want(t, "Verify with a channel of another field", Verify(k, x, queries, grind, api.Channel{Field: g, S: c.S}), false)
				}
			}
		}
	}
	if refused < 1000 {
		t.Errorf("only %d changes are to be refused", refused)
	}
}

// testChanges returns tests that differ from x in one thing. Their proofs have the shape of the key.
func testChanges(r *rand.Rand, k api.LowKey, x api.LowTest) []api.LowTest {
	var out []api.LowTest
	f := k.Domain.Field
	change := func(do func(y *api.LowTest)) {
		y := copyOf(x)
		do(&y)
		out = append(out, y)
	}
	change(func(y *api.LowTest) { y.Proof = anyProof(r, k) })
	change(func(y *api.LowTest) { y.Proof.Final = some(r, f, len(y.Proof.Final)) })
	change(func(y *api.LowTest) { y.Nonce++ })
	change(func(y *api.LowTest) { y.Nonce += primes[f] })
	change(func(y *api.LowTest) { y.Nonce = most / primes[f] * primes[f] })
	change(func(y *api.LowTest) { y.Opens = y.Opens[1:] })
	change(func(y *api.LowTest) { y.Opens = append(y.Opens, y.Opens[0]) })
	for q, o := range x.Opens {
		change(func(y *api.LowTest) { y.Opens[q] = api.LowOpen{} })
		change(func(y *api.LowTest) { y.Opens[q].Leaves = nil })
		change(func(y *api.LowTest) { y.Opens[q].Paths = nil })
		for j := range o.Leaves {
			change(func(y *api.LowTest) { y.Opens[q].Leaves[j][r.Intn(8)] += primes[f] })
			change(func(y *api.LowTest) { y.Opens[q].Leaves[j] = [8]uint64(some(r, f, 8)) })
			change(func(y *api.LowTest) { y.Opens[q].Paths[j] = digests(r, f, len(o.Paths[j])) })
			change(func(y *api.LowTest) { y.Opens[q].Paths[j] = append(y.Opens[q].Paths[j], api.Digest{}) })
		}
	}
	return out
}

// TestVerifyTakesAnyGoodNonce: that the nonce is the least one is not examined.
func TestVerifyTakesAnyGoodNonce(t *testing.T) {
	r := rand.New(rand.NewSource(169))
	for f := range primes {
		k := api.LowKey{Domain: api.Domain{Field: f, K: 5, Shift: 2}, Degree: 4, Cap: 1}
		c := anyChannel(r, f)
		s, after, _ := commitOf(k, lowWord(r, k.Domain, 16), c)
		x := api.LowTest{Proof: s.Proof}
		for from := uint64(0); from < 12; from = x.Nonce + 1 {
			nonce, drawing, ok := goodOf(after, from, 2)
			want(t, "whether there is a good nonce", ok, true)
			x.Nonce, x.Opens = nonce, opensOf(s, 3, drawing)
			want(t, "Verify with a good nonce", Verify(k, x, 3, 2, c), true)
			x.Nonce += primes[f]
			want(t, "Verify with a good nonce that is no element", Verify(k, x, 3, 2, c), false)
			x.Nonce -= primes[f]
		}
	}
}

func TestVerifyOfWrongArguments(t *testing.T) {
	r := rand.New(rand.NewSource(170))
	for _, k := range noKeys() {
		want(t, "Verify with a key that is not valid", Verify(k, api.LowTest{}, 0, 0, api.Channel{Field: k.Domain.Field}), false)
	}
	for f := range primes {
		for _, k := range keys(r, f, 5) {
			c := anyChannel(r, f)
			s, _, _ := commitOf(k, lowWord(r, k.Domain, 1<<k.Degree), c)
			x := api.LowTest{Proof: s.Proof} // without queries and grinding every nonce is good
			want(t, "Verify of a test without queries", Verify(k, x, 0, 0, c), k.Degree >= 3)
			for _, n := range wrongPlaces(65) {
				want(t, "Verify with a wrong number of queries", Verify(k, x, n, 0, c), false)
			}
			for _, n := range wrongPlaces(21) {
				want(t, "Verify with a wrong number of bits", Verify(k, x, 0, n, c), false)
			}
			for _, p := range append(otherShapes(k, s.Proof), api.LowProof{}) {
				want(t, "Verify with a proof of another shape", Verify(k, api.LowTest{Proof: p}, 0, 0, c), false)
			}
		}
	}
	// 65 openings, each of which is accepted alone.
	k := api.LowKey{Domain: api.Domain{Field: 0, K: 3, Shift: 2}, Degree: 3}
	s, after, _ := commitOf(k, lowWord(r, k.Domain, 8), api.Channel{})
	nonce, drawing, _ := goodOf(after, 0, 0)
	for n := 63; n < 67; n++ {
		x := api.LowTest{Proof: s.Proof, Nonce: nonce, Opens: opensOf(s, n, drawing)}
		want(t, "Verify of many openings", Verify(k, x, n, 0, api.Channel{}), n <= 64)
	}
}
