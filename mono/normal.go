package mono

import (
	"cmp"
	"slices"
	"strconv"

	"attestor/api"
	"attestor/field"
)

// Normal returns the normal form of a sum.
func Normal(f int, sum []api.Mono) ([]api.Mono, api.Errno) {
	if !field.Valid(f) {
		return nil, api.ErrArg
	}
	c := newCollection(f)
	for _, m := range sum {
		c.add(m.Coef, m.Vars)
	}
	return c.normal(), api.OK
}

// Add returns the sum of two sums, in normal form.
func Add(f int, a, b []api.Mono) ([]api.Mono, api.Errno) {
	return Normal(f, slices.Concat(a, b))
}

// Mul returns the product of two sums, in normal form.
func Mul(f int, a, b []api.Mono) ([]api.Mono, api.Errno) {
	if !field.Valid(f) {
		return nil, api.ErrArg
	}
	c := newCollection(f)
	multiply := func(x, y api.Mono) {
		c.add(field.Mul(f, x.Coef, y.Coef), x.Vars, y.Vars)
	}
	for _, x := range a {
		for _, y := range b {
			multiply(x, y)
		}
	}
	return c.normal(), api.OK
}

// collection is a sum in the making. The variables of each of its monomials are in order, and no two monomials have the same ones: products are collected at once because there are often many more of them than different ones.
type collection struct {
	f      int
	sum    []api.Mono
	places map[string]int // where in sum the monomial is whose variables have a key
}

func newCollection(f int) *collection {
	return &collection{f: f, places: map[string]int{}}
}

// add adds the monomial with the variables of all the lists.
func (c *collection) add(coef uint64, lists ...[]api.Var) {
	vars := slices.Concat(lists...) // new memory, so that no argument is sorted or becomes a part of the result
	slices.SortFunc(vars, compareVars)
	k := key(vars)
	i, ok := c.places[k]
	if !ok {
		i = len(c.sum)
		c.places[k] = i
		c.sum = append(c.sum, api.Mono{Vars: vars})
	}
	c.sum[i].Coef = field.Add(c.f, c.sum[i].Coef, coef)
}

// normal returns what was collected in normal form. Nothing can be added afterwards.
func (c *collection) normal() []api.Mono {
	out := slices.DeleteFunc(c.sum, func(m api.Mono) bool { return m.Coef == 0 })
	slices.SortFunc(out, compareMonos)
	return out
}

// key returns a string that no other list of variables has. The text would not do: it gives several kinds the same name.
func key(vars []api.Var) string {
	var b []byte
	for _, v := range vars {
		b = strconv.AppendUint(b, uint64(v.Kind), 10)
		b = append(b, ':')
		b = strconv.AppendInt(b, int64(v.Index), 10)
		b = append(b, ',')
	}
	return string(b)
}

// compareVars compares two variables by their order.
func compareVars(v, w api.Var) int {
	if v.Kind != w.Kind {
		return cmp.Compare(v.Kind, w.Kind)
	}
	return cmp.Compare(v.Index, w.Index)
}

// compareMonos compares two monomials by the order of their lists of variables.
func compareMonos(x, y api.Mono) int {
	if len(x.Vars) != len(y.Vars) {
		return cmp.Compare(len(x.Vars), len(y.Vars))
	}
	return slices.CompareFunc(x.Vars, y.Vars, compareVars)
}
