package compose

import (
	"slices"

	"attestor/api"
	"attestor/argument"
	"attestor/field"
	"attestor/transform"
)

// Columns returns the wide columns of the composition's segments.
func Columns(s api.System, w api.Wide, a uint64) ([][]uint64, api.Errno) {
	if !Possible(s, w.Blow) || !isWide(s, w) || !field.Is(s.Field, a) {
		return nil, api.ErrArg
	}
	shift := field.Generator(s.Field)
	h, _ := transform.Coefficients(s.Field, shift, compositions(s, w, a)) // no error: there are as many wide points as values
	rows, end := 1<<s.Rows, Segments(s)<<s.Rows
	if slices.ContainsFunc(h[end:], func(x uint64) bool { return x != 0 }) {
		return nil, api.ErrNone
	}
	var out [][]uint64
	for segment := range slices.Chunk(h[:end], rows) {
		column, _ := transform.Values(s.Field, s.Rows+w.Blow, shift, segment)
		out = append(out, column)
	}
	return out, api.OK
}

// isWide reports whether a system for which the blow-up is possible has such wide columns, inputs and challenges.
func isWide(s api.System, w api.Wide) bool {
	are := func(columns [][]uint64, number int) bool {
		return len(columns) == number && !slices.ContainsFunc(columns, func(l []uint64) bool {
			return len(l) != 1<<(s.Rows+w.Blow) || !field.Is(s.Field, l...)
		})
	}
	arguments := argument.Count(s)
	return are(w.Fixed, len(s.Fixed)) && are(w.Main, s.Main) && are(w.Aux, arguments) &&
		len(w.Public) == s.Public && (arguments == 0 || len(w.Challenge) >= 2) &&
		field.Is(s.Field, w.Public...) && field.Is(s.Field, w.Challenge...)
}

// compositions returns the composition at all wide points.
func compositions(s api.System, w api.Wide, a uint64) []uint64 {
	var out []uint64
	c, env, short := composerOf(s, a, widePoints(s, w.Blow)), environments(w, s.Rows+w.Blow), shortened(s)
	for i := range 1 << (s.Rows + w.Blow) {
		values, _ := argument.Values(short, env(i)) // no error: the system is valid, and the columns have a value for each variable
		out = append(out, c.value(i, values))
	}
	return out
}

// widePoints returns the wide points.
func widePoints(s api.System, blow int) []uint64 {
	var out []uint64
	x, root := field.Generator(s.Field), field.Root(s.Field, s.Rows+blow)
	for range 1 << (s.Rows + blow) {
		out = append(out, x)
		x = field.Mul(s.Field, x, root)
	}
	return out
}

// environments returns the function that makes the environment of a wide row, of which there are 2^k.
func environments(w api.Wide, k int) func(i int) api.Env {
	across := func(columns [][]uint64, i int) []uint64 {
		var out []uint64
		for _, l := range columns {
			out = append(out, l[i])
		}
		return out
	}
	return func(i int) api.Env {
		next := (i + 1<<w.Blow) % (1 << k)
		return api.Env{
			Main: across(w.Main, i), Next: across(w.Main, next), Fixed: across(w.Fixed, i), Public: w.Public,
			Aux: across(w.Aux, i), AuxNext: across(w.Aux, next), Challenge: w.Challenge,
		}
	}
}

// shortened returns a system with the constraints of a valid one, but two rows. In an environment both have the same values, but argument.Values checks the whole system each time, and long fixed columns are by far the most of it.
func shortened(s api.System) api.System {
	s.Rows = 1
	s.Fixed = make([][]uint64, len(s.Fixed))
	for i := range s.Fixed {
		s.Fixed[i] = make([]uint64, 2)
	}
	return s
}
