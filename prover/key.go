package prover

import (
	"slices"

	"attestor/api"
	"attestor/field"
	"attestor/tree"
)

// maxFixed is the greatest number of fixed columns.
const maxFixed = 64

// NewKey returns the key of a system.
func NewKey(s api.System, p api.Params) (api.Key, api.Errno) {
	if !Possible(s, p) {
		return api.Key{}, api.ErrArg
	}
	return keyOf(s, p, treeOf(s.Field, widened(s, p, s.Fixed), p.Cap)), api.OK
}

// keyOf returns the key of a system with the tree of its fixed wide columns.
func keyOf(s api.System, p api.Params, fixed api.Tree) api.Key {
	return api.Key{Params: p, Shape: shapeOf(s), Fixed: len(s.Fixed), Cap: tree.Cap(fixed)}
}

// shapeOf returns a copy of a system without its fixed columns.
func shapeOf(s api.System) api.System {
	s.Fixed = nil
	s.Rules = each(s.Rules, func(r api.Rule) api.Rule {
		return api.Rule{On: r.On, Sum: each(r.Sum, func(m api.Mono) api.Mono {
			return api.Mono{Coef: m.Coef, Vars: list(m.Vars)}
		})}
	})
	s.Perms = each(s.Perms, func(p api.Perm) api.Perm {
		return api.Perm{Left: each(p.Left, list), Right: each(p.Right, list)}
	})
	s.Lookups = each(s.Lookups, func(l api.Lookup) api.Lookup {
		return api.Lookup{Tuple: list(l.Tuple), Table: list(l.Table), Count: l.Count}
	})
	return s
}

// list returns a copy of a list of variables, and nil if there are none.
func list(l []api.Var) []api.Var { return append([]api.Var(nil), l...) }

// ValidKey reports whether a key is valid.
func ValidKey(k api.Key) bool {
	// Without these sizes there would be no columns of zeros to make.
	if !within(k.Fixed, 0, maxFixed) || !within(k.Shape.Rows, 1, api.MaxRows) {
		return false
	}
	return len(k.Shape.Fixed) == 0 && Possible(filled(k), k.Params) && hasCap(k)
}

// filled returns the system that a key's Shape is with columns of zeros.
func filled(k api.Key) api.System {
	s := k.Shape
	s.Fixed = slices.Repeat([][]uint64{make([]uint64, 1<<s.Rows)}, k.Fixed)
	return s
}

// hasCap reports whether a key with possible parameters has a cap of its fixed columns' tree, just if there are any.
func hasCap(k api.Key) bool {
	if k.Fixed == 0 {
		return len(k.Cap) == 0
	}
	return len(k.Cap) == 1<<min(k.Params.Cap, height(k.Shape, k.Params)) &&
		!slices.ContainsFunc(k.Cap, func(d api.Digest) bool { return !field.Is(k.Shape.Field, d[:]...) })
}

// height returns the height of the trees of columns: there are 2^height wide rows.
func height(s api.System, p api.Params) int { return s.Rows + p.Blow }
