package argument

import (
	"slices"

	"attestor/api"
	"attestor/field"
	"attestor/system"
)

// Columns returns the argument columns of a trace.
func Columns(s api.System, t api.Trace, c, d uint64) ([][]uint64, api.Errno) {
	if !system.Fits(s, t) || !field.Is(s.Field, c, d) {
		return nil, api.ErrArg
	}
	x := sheet{weigher{s.Field, c, d}, rowsOf(s, t)}
	var out [][]uint64
	for _, p := range s.Perms {
		out = append(out, x.permColumn(p))
	}
	for _, l := range s.Lookups {
		out = append(out, x.lookupColumn(l))
	}
	for _, column := range out {
		if column == nil {
			return nil, api.ErrNone
		}
	}
	return out, api.OK
}

// rowsOf returns all rows of a trace that fits.
func rowsOf(s api.System, t api.Trace) []row {
	var out []row
	for i := range 1 << s.Rows {
		out = append(out, func(v api.Var) uint64 { return pick(v, t.Main, s.Fixed)[i] })
	}
	return out
}

// A sheet is all rows, and what weighs their tuples.
type sheet struct {
	weigher
	rows []row
}

// permColumn returns the column of a permutation, and nothing if it would divide by 0.
func (x sheet) permColumn(p api.Perm) []uint64 {
	over := x.inverses(func(value row) uint64 { return x.product(p.Right, value) })
	return x.column(1, func(z uint64, i int) uint64 {
		step := field.Mul(x.field, x.product(p.Left, x.rows[i]), over[i])
		return field.Mul(x.field, z, step)
	}, over)
}

// lookupColumn returns the column of a lookup, and nothing if it would divide by 0.
func (x sheet) lookupColumn(l api.Lookup) []uint64 {
	used := x.inverses(func(value row) uint64 { return x.tuple(l.Tuple, value) })
	listed := x.inverses(func(value row) uint64 { return x.tuple(l.Table, value) })
	return x.column(0, func(z uint64, i int) uint64 {
		counted := field.Mul(x.field, x.rows[i](l.Count), listed[i])
		return field.Add(x.field, z, field.Sub(x.field, used[i], counted))
	}, used, listed)
}

// inverses returns the inverse of a weight in each row, and 0 where the weight is 0.
func (x sheet) inverses(weight func(value row) uint64) []uint64 {
	var out []uint64
	for _, value := range x.rows {
		out = append(out, weight(value))
	}
	return field.Inverses(x.field, out)
}

// column returns the column that begins with first and goes on from row to row, and nothing if an inverse that it takes is 0. The inverses of the last row count too, although no row follows it: the constraints lead on from it to the first one.
func (x sheet) column(first uint64, next func(z uint64, i int) uint64, taken ...[]uint64) []uint64 {
	for _, l := range taken {
		if slices.Contains(l, 0) {
			return nil
		}
	}
	out := []uint64{first}
	for i := range len(x.rows) - 1 {
		out = append(out, next(out[i], i))
	}
	return out
}
