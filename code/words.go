package code

import (
	"attestor/api"
	"attestor/field"
	"attestor/poly"
	"attestor/transform"
)

// maxKnown is the greatest n for which Fill finds a word of degree below n.
const maxKnown = 1024

// isOn reports whether all lists are words on a domain, which is valid.
func isOn(d api.Domain, lists ...[]uint64) bool {
	for _, v := range lists {
		if len(v) != Size(d) {
			return false
		}
	}
	return Valid(d)
}

// Extend returns the columns on the wide domain.
func Extend(f int, cols [][]uint64, b int) ([][]uint64, api.Errno) {
	if !field.Valid(f) {
		return nil, api.ErrArg
	}
	for _, v := range cols {
		if len(v) != len(cols[0]) {
			return nil, api.ErrArg
		}
	}
	out := make([][]uint64, len(cols))
	for i, v := range cols {
		wide, e := transform.Widen(f, v, b)
		if e != api.OK {
			return nil, e
		}
		out[i] = wide
	}
	return out, api.OK
}

// IsWord reports whether a word is of degree below n. As n is at most the number of points, a polynomial with at most n coefficients is the one that transform.Coefficients finds.
func IsWord(d api.Domain, v []uint64, n int) bool {
	if !isOn(d, v) || n < 0 || n > len(v) {
		return false
	}
	p, e := transform.Coefficients(d.Field, d.Shift, v)
	return e == api.OK && poly.Degree(d.Field, p) < n
}

// Fill returns the word of degree below n with the known values. The first n of them decide which word it can be.
func Fill(d api.Domain, v []uint64, known []bool, n int) ([]uint64, api.Errno) {
	if !isOn(d, v) || len(known) != len(v) {
		return nil, api.ErrArg
	}
	if n < 0 || n > len(v) {
		return nil, api.ErrRange
	}
	if n > maxKnown {
		return nil, api.ErrLimit
	}
	xs, ys := firstKnown(d, v, known, n)
	if len(xs) < n {
		return nil, api.ErrShort
	}
	p, e := poly.Through(d.Field, xs, ys)
	if e != api.OK {
		return nil, e
	}
	out, e := transform.Values(d.Field, d.K, d.Shift, p)
	if e != api.OK {
		return nil, e
	}
	for i, x := range out {
		if known[i] && x != field.Reduce(d.Field, v[i]) {
			return nil, api.ErrNone
		}
	}
	return out, api.OK
}

// firstKnown returns the first n points at which the value of a word is known, and the values there; fewer if no more are known.
func firstKnown(d api.Domain, v []uint64, known []bool, n int) (xs, ys []uint64) {
	for i, x := range Points(d) {
		if known[i] && len(xs) < n {
			xs, ys = append(xs, x), append(ys, v[i])
		}
	}
	return xs, ys
}

// Differ returns at how many places two lists differ.
func Differ(f int, a, b []uint64) int {
	if !field.Valid(f) {
		return 0
	}
	both := min(len(a), len(b))
	n := max(len(a), len(b)) - both
	for i := range both {
		if field.Reduce(f, a[i]) != field.Reduce(f, b[i]) {
			n++
		}
	}
	return n
}
