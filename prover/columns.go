package prover

import (
	"math/bits"

	"attestor/api"
	"attestor/sponge"
	"attestor/transform"
	"attestor/tree"
)

// widened returns the wide columns of a system's columns.
func widened(s api.System, p api.Params, columns [][]uint64) [][]uint64 {
	return each(columns, func(l []uint64) []uint64 {
		wide, _ := transform.Widen(s.Field, l, p.Blow) // no error: the blow-up is possible
		return wide
	})
}

// treeOf returns the tree of wide columns. If there are none, it is no valid tree, so that its cap and its paths are empty.
func treeOf(f int, columns [][]uint64, cap int) api.Tree {
	if len(columns) == 0 {
		return api.Tree{}
	}
	leaves := make([]api.Digest, len(columns[0]))
	for i := range len(leaves) {
		leaves[i] = sponge.Hash(f, across(columns, i))
	}
	height := bits.Len(uint(len(leaves))) - 1
	t, _ := tree.Build(f, leaves, min(cap, height)) // no error: digests of the sponge are proper
	return t
}

// across returns the values of columns in a row.
func across(columns [][]uint64, row int) []uint64 {
	return each(columns, func(l []uint64) uint64 { return l[row] })
}

// each returns what is made of the elements of a list, and nil if there are none.
func each[A, B any](l []A, of func(A) B) []B {
	var out []B
	for _, x := range l {
		out = append(out, of(x))
	}
	return out
}
