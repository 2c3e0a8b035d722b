package tree

import (
	"iter"
	"math/bits"
	"slices"

	"attestor/api"
)

// exponent returns the k from 0 to MaxHeight with n = 2^k, if there is one.
func exponent(n int) (k int, ok bool) {
	if n < 1 || n > 1<<api.MaxHeight || n&(n-1) != 0 {
		return 0, false
	}
	return bits.TrailingZeros(uint(n)), true
}

// upward yields the levels over leaves, whose number is a power of two: a copy of the leaves first, and at last the level of one digest. A caller who has seen the cap stops, so that no node above it is computed.
func upward(f int, leaves []api.Digest) iter.Seq[[]api.Digest] {
	return func(yield func([]api.Digest) bool) {
		level := slices.Clone(leaves)
		for yield(level) && len(level) > 1 {
			level = nodes(f, level)
		}
	}
}

// nodes returns the level above a level.
func nodes(f int, level []api.Digest) []api.Digest {
	out := make([]api.Digest, len(level)/2)
	for i := range out {
		out[i] = nodeOver(f, level, i)
	}
	return out
}
