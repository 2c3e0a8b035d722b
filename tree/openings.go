package tree

import (
	"attestor/api"
	"attestor/field"
	"attestor/sponge"
)

// pair is what a node is taken of: its left and its right digest.
type pair = [2]api.Digest

// isOpening reports whether a leaf at a place with a path can be climbed from.
func isOpening(f, i int, leaf api.Digest, path []api.Digest) bool {
	return field.Valid(f) && i >= 0 && len(path) <= api.MaxHeight && proper(f, []api.Digest{leaf}) && proper(f, path)
}

// climber returns a function that goes up one level with each call, from the digest x at the place i. It is given the digest beside the one that was reached so far, and returns the pair of both and its node, which is reached now.
func climber(f, i int, x api.Digest) func(beside api.Digest) (pair, api.Digest) {
	return func(beside api.Digest) (pair, api.Digest) {
		both := pair{x, beside}
		if i%2 == 1 {
			both = pair{beside, x}
		}
		i /= 2
		x = sponge.Node(f, both[0], both[1])
		return both, x
	}
}

// Climb returns the digest that an opening reaches.
func Climb(f, i int, leaf api.Digest, path []api.Digest) api.Digest {
	if !isOpening(f, i, leaf, path) {
		return api.Digest{}
	}
	climb, x := climber(f, i, leaf), leaf
	for _, beside := range path {
		_, x = climb(beside)
	}
	return x
}

// Check reports whether an opening belongs to a cap.
func Check(f int, cap []api.Digest, i int, leaf api.Digest, path []api.Digest) bool {
	c, ok := exponent(len(cap))
	if !ok || c+len(path) > api.MaxHeight || !isOpening(f, i, leaf, path) || !proper(f, cap) {
		return false
	}
	over := i >> len(path)
	return over < len(cap) && Climb(f, i, leaf, path) == cap[over]
}

// Clash returns two different pairs with the same node, from two openings of a place.
func Clash(f, i int, a, b api.Digest, p, q []api.Digest) (x, y [2]api.Digest, ok bool) {
	if len(p) != len(q) || !isOpening(f, i, a, p) || !isOpening(f, i, b, q) {
		return pair{}, pair{}, false
	}
	climbA, climbB := climber(f, i, a), climber(f, i, b)
	for j := range p {
		var v, w pair
		v, a = climbA(p[j])
		w, b = climbB(q[j])
		if v != w { // a later one lies higher, and the last one's nodes are equal if the ends are
			x, y, ok = v, w, true
		}
	}
	if a != b {
		return pair{}, pair{}, false
	}
	return x, y, ok
}
