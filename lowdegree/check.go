package lowdegree

import (
	"attestor/api"
	"attestor/channel"
	"attestor/code"
	"attestor/field"
	"attestor/fold"
	"attestor/poly"
	"attestor/tree"
)

// The greatest numbers of queries and of bits of grinding of a whole test, and how many nonces its prover tries.
const (
	maxQueries = 64
	maxGrind   = 20
	tries      = 1 << 20
)

// Follow returns the challenges that are drawn for a proof.
func Follow(k api.LowKey, p api.LowProof, c api.Channel) ([]uint64, api.Channel, api.Errno) {
	if !isStart(k, c) {
		return nil, api.Channel{}, api.ErrArg
	}
	if !hasShape(k, p) {
		return nil, api.Channel{}, api.ErrShape
	}
	zs := make([]uint64, len(p.Caps))
	for j, cap := range p.Caps {
		c, zs[j] = channel.Draw(channel.AbsorbCap(c, cap))
	}
	return zs, channel.Absorb(c, p.Final...), api.OK
}

// isOpening reports whether an opening has a leaf of elements and a path for each round of a valid key.
func isOpening(k api.LowKey, o api.LowOpen) bool {
	n := fold.Rounds(k.Degree)
	if len(o.Leaves) != n || len(o.Paths) != n {
		return false
	}
	for _, leaf := range o.Leaves {
		if !field.Is(k.Domain.Field, leaf[:]...) {
			return false
		}
	}
	return true
}

// belongs reports whether a leaf is the one with the number i below a cap.
func (r round) belongs(cap []api.Digest, i int, leaf [8]uint64, path []api.Digest) bool {
	return len(path) == r.height-r.cap && tree.Check(r.domain.Field, cap, i, r.digest(leaf), path)
}

// Check reports whether an opening at a position fits.
func Check(k api.LowKey, p api.LowProof, zs []uint64, i int, value uint64, o api.LowOpen) bool {
	if !Valid(k) || !hasShape(k, p) || len(zs) != len(p.Caps) || i < 0 || i >= code.Size(k.Domain) || !isOpening(k, o) {
		return false
	}
	f := k.Domain.Field
	x := field.Reduce(f, value)
	for j, r := range rounds(k) {
		leaf, at := o.Leaves[j], i%r.leaves()
		if leaf[i/r.leaves()] != x || !r.belongs(p.Caps[j], at, leaf, o.Paths[j]) {
			return false
		}
		x = fold.At(f, code.Point(r.domain, at), leaf, zs[j])
		i = at
	}
	return x == poly.Eval(f, p.Final, code.Point(last(k), i))
}

// isTest reports whether there is a whole test with a key and with numbers of queries and of bits of grinding.
func isTest(k api.LowKey, queries, grind int) bool {
	return Valid(k) && k.Degree >= step && queries >= 0 && queries <= maxQueries && grind >= 0 && grind <= maxGrind
}

// positions returns the positions that are drawn from a channel.
func positions(k api.LowKey, queries int, c api.Channel) []int {
	out := make([]int, queries)
	for q := range out {
		c, out[q] = channel.Position(c, k.Domain.K)
	}
	return out
}

// Verify reports whether a whole test is accepted.
func Verify(k api.LowKey, t api.LowTest, queries, grind int, c api.Channel) bool {
	if !isTest(k, queries, grind) {
		return false
	}
	zs, c, e := Follow(k, t.Proof, c)
	if e != api.OK || !field.Is(k.Domain.Field, t.Nonce) || len(t.Opens) != queries {
		return false
	}
	c, good := channel.Grind(c, t.Nonce, grind)
	if !good {
		return false
	}
	for q, i := range positions(k, queries, c) {
		o := t.Opens[q]
		if !isOpening(k, o) { // else there may be no first leaf
			return false
		}
		value := o.Leaves[0][i>>(k.Domain.K-step)]
		if !Check(k, t.Proof, zs, i, value, o) {
			return false
		}
	}
	return true
}
