package argument

import (
	"slices"

	"attestor/api"
	"attestor/field"
)

// Weight returns the weight of a tuple's values.
func Weight(f int, values []uint64, c, d uint64) uint64 {
	return weigher{f, c, d}.weight(values...)
}

// A weigher makes weights in a field, of the challenges c and d.
type weigher struct {
	field int
	c, d  uint64
}

// A row says which value each variable of a tuple has in it.
type row func(v api.Var) uint64

// weight returns the weight of values.
func (w weigher) weight(values ...uint64) uint64 {
	sum := uint64(0)
	for _, v := range slices.Backward(values) {
		sum = field.Add(w.field, v, field.Mul(w.field, w.d, sum))
	}
	return field.Add(w.field, w.c, sum)
}

// tuple returns the weight of a tuple in a row.
func (w weigher) tuple(vars []api.Var, value row) uint64 {
	var values []uint64
	for _, v := range vars {
		values = append(values, value(v))
	}
	return w.weight(values...)
}

// product returns the product of the weights of tuples in a row.
func (w weigher) product(tuples [][]api.Var, value row) uint64 {
	out := uint64(1)
	for _, vars := range tuples {
		out = field.Mul(w.field, out, w.tuple(vars, value))
	}
	return out
}

// permStep returns how far a permutation's column is from going on as it must, from z in a row to next.
func (w weigher) permStep(p api.Perm, value row, z, next uint64) uint64 {
	right := field.Mul(w.field, next, w.product(p.Right, value))
	return field.Sub(w.field, right, field.Mul(w.field, z, w.product(p.Left, value)))
}

// lookupStep returns how far a lookup's column is from going on as it must, from z in a row to next. It is multiplied by both weights, because a constraint cannot divide.
func (w weigher) lookupStep(l api.Lookup, value row, z, next uint64) uint64 {
	f, u, t := w.field, w.tuple(l.Tuple, value), w.tuple(l.Table, value)
	step := field.Mul(f, field.Sub(f, next, z), field.Mul(f, u, t))
	return field.Add(f, field.Sub(f, step, t), field.Mul(f, value(l.Count), u))
}
