package sponge

import (
	"math"
	"math/bits"

	"attestor/api"
	"attestor/field"
)

// width is the number of elements of a state.
const width = 4

// undoing contains the exponent that undoes the exponent of each field, at the field's number.
var undoing = [4]uint64{77, 171, 7373, 665496235}

// mixer mixes states of one field. Its methods take and return elements, unless they say otherwise: these are below 2^30, so that their products and their small sums do not wrap around.
type mixer struct {
	f           int
	p, exponent uint64
	share       uint64 // how often P goes into 2^64
	constants   [api.Rounds][width]uint64
}

// mixerOf returns the mixer of a field, and false if there is no such field.
func mixerOf(f int) (mixer, bool) {
	numbers, ok := field.Of(f)
	if !ok {
		return mixer{}, false
	}
	m := mixer{f: f, p: numbers.P, exponent: numbers.Exponent, share: math.MaxUint64 / numbers.P}
	power := uint64(1)
	for r := range api.Rounds {
		for j := range width {
			power = m.reduce(power * numbers.Generator)
			m.constants[r][j] = m.reduce(power + 7)
		}
	}
	return m, true
}

// reduce returns any number modulo P. Most of the time of the sponge is spent here, and a product costs much less than a division by a P that the compiler does not know. The quotient that the share gives is too small by 1 at most.
func (m *mixer) reduce(n uint64) uint64 {
	quotient, _ := bits.Mul64(n, m.share)
	rest := n - quotient*m.p
	if rest >= m.p {
		rest -= m.p
	}
	return rest
}

// elements returns a state of any numbers modulo P.
func (m *mixer) elements(s [width]uint64) [width]uint64 {
	for j := range width {
		s[j] = m.reduce(s[j])
	}
	return s
}

// power returns x^n for an x below 2 P and an n above 1.
func (m *mixer) power(x, n uint64) uint64 {
	out := x
	for bit := bits.Len64(n) - 2; bit >= 0; bit-- {
		out = m.reduce(out * out)
		if n>>bit&1 == 1 {
			out = m.reduce(out * x)
		}
	}
	return out
}

// round returns a state after the round r.
func (m *mixer) round(r int, s [width]uint64) [width]uint64 {
	sum := uint64(0)
	for j := range width {
		s[j] = m.power(s[j]+m.constants[r][j], m.exponent)
		sum += s[j]
	}
	var t [width]uint64
	for j := range width { // the factors of each row are 1, and by 1 and 2 more at two places
		t[j] = m.reduce(sum + s[j] + 2*s[(j+1)%width])
	}
	return t
}

// unround returns the state that is t after the round r; part is the 35th part of 1.
func (m *mixer) unround(r int, part uint64, t [width]uint64) [width]uint64 {
	var s [width]uint64
	for i := range width {
		sum := 4*(m.p-t[i]) + 3*t[(i+1)%width] + 11*(m.p-t[(i+2)%width]) + 17*t[(i+3)%width]
		x := m.power(m.reduce(m.reduce(sum)*part), undoing[m.f])
		s[i] = m.reduce(x + m.p - m.constants[r][i])
	}
	return s
}

// perm returns the permutation of a state.
func (m *mixer) perm(s [width]uint64) [width]uint64 {
	for r := range api.Rounds {
		s = m.round(r, s)
	}
	return s
}

// inverse returns the state whose permutation is t.
func (m *mixer) inverse(t [width]uint64) [width]uint64 {
	part := field.Inv(m.f, 35)
	for back := range api.Rounds {
		t = m.unround(api.Rounds-1-back, part, t)
	}
	return t
}
