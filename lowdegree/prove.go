package lowdegree

import (
	"attestor/api"
	"attestor/channel"
	"attestor/code"
	"attestor/field"
	"attestor/fold"
	"attestor/poly"
	"attestor/transform"
	"attestor/tree"
)

// commitment returns the tree of a round over the leaves of its word.
func (r round) commitment(word []uint64) api.Tree {
	leaves := make([]api.Digest, r.leaves())
	for i := range leaves {
		leaves[i] = r.digest(fold.Leaf(r.domain, word, i))
	}
	t, _ := tree.Build(r.domain.Field, leaves, r.cap) // no error: digests of the sponge are proper
	return t
}

// Commit folds a word, and commits to each word.
func Commit(k api.LowKey, word []uint64, c api.Channel) (api.LowState, api.Channel, api.Errno) {
	if !isStart(k, c) || len(word) != code.Size(k.Domain) {
		return api.LowState{}, api.Channel{}, api.ErrArg
	}
	s := api.LowState{Key: k}
	v := make([]uint64, len(word))
	for i, x := range word {
		v[i] = field.Reduce(k.Domain.Field, x)
	}
	for _, r := range rounds(k) {
		cap := tree.Cap(r.commitment(v))
		s.Words, s.Proof.Caps = append(s.Words, v), append(s.Proof.Caps, cap)
		var z uint64
		c, z = channel.Draw(channel.AbsorbCap(c, cap))
		v, _ = fold.Word(r.domain, v, z) // no error: v is a word on a domain that can be folded
	}
	final, ok := coefficients(last(k), v, finals(k))
	if !ok {
		return api.LowState{}, api.Channel{}, api.ErrNone
	}
	s.Words, s.Proof.Final = append(s.Words, v), final
	return s, channel.Absorb(c, final...), api.OK
}

// coefficients returns the n coefficients of the polynomial of a word, if there is one with no more of them.
func coefficients(d api.Domain, word []uint64, n int) ([]uint64, bool) {
	p, e := transform.Coefficients(d.Field, d.Shift, word)
	if e != api.OK || poly.Degree(d.Field, p) >= n {
		return nil, false
	}
	return p[:n:n], true
}

// isState reports whether a state is valid.
func isState(s api.LowState) bool {
	if !Valid(s.Key) || len(s.Words) != fold.Rounds(s.Key.Degree)+1 {
		return false
	}
	for j, r := range rounds(s.Key) {
		if len(s.Words[j]) != code.Size(r.domain) {
			return false
		}
	}
	return len(s.Words[len(s.Words)-1]) == code.Size(last(s.Key))
}

// opener returns a function that opens the positions of a valid state. The trees are built once for all of them.
func opener(s api.LowState) func(i int) api.LowOpen {
	var trees []api.Tree
	for j, r := range rounds(s.Key) {
		trees = append(trees, r.commitment(s.Words[j]))
	}
	return func(i int) api.LowOpen {
		var o api.LowOpen
		for j, r := range rounds(s.Key) {
			i %= r.leaves()
			path, _ := tree.Path(trees[j], i)
			o.Leaves = append(o.Leaves, fold.Leaf(r.domain, s.Words[j], i))
			o.Paths = append(o.Paths, path)
		}
		return o
	}
}

// Open returns the leaves and paths of a position.
func Open(s api.LowState, i int) (api.LowOpen, api.Errno) {
	if !isState(s) {
		return api.LowOpen{}, api.ErrArg
	}
	if i < 0 || i >= code.Size(s.Key.Domain) {
		return api.LowOpen{}, api.ErrRange
	}
	return opener(s)(i), api.OK
}

// Prove returns a whole test of a word.
func Prove(k api.LowKey, word []uint64, queries, grind int, c api.Channel) (api.LowTest, api.Errno) {
	if !isTest(k, queries, grind) {
		return api.LowTest{}, api.ErrArg
	}
	s, c, e := Commit(k, word, c)
	if e != api.OK {
		return api.LowTest{}, e
	}
	nonce, ok := channel.Search(c, grind, tries)
	if !ok {
		return api.LowTest{}, api.ErrFull
	}
	t := api.LowTest{Proof: s.Proof, Nonce: nonce}
	c, _ = channel.Grind(c, nonce, grind)
	open := opener(s)
	for _, i := range positions(k, queries, c) {
		t.Opens = append(t.Opens, open(i))
	}
	return t, api.OK
}
