package system

import (
	"slices"

	"attestor/api"
	"attestor/field"
	"attestor/mono"
)

// The greatest numbers of what a system has.
const (
	maxMain    = 64
	maxPublic  = 16
	maxFixed   = 64
	maxRules   = 64
	maxMonos   = 64 // of a rule
	maxVars    = 8  // of a monomial
	maxPerms   = 4
	maxTuples  = 4 // of each side of a permutation
	maxLength  = 4 // of a tuple
	maxLookups = 8
)

// Valid reports whether a system is valid.
func Valid(s api.System) bool {
	// The sizes come first because the others count on them.
	return validSizes(s) && areColumns(s, s.Fixed) &&
		all(s, s.Rules, validRule) && all(s, s.Perms, validPerm) && all(s, s.Lookups, validLookup)
}

// validSizes reports whether a system has as much of everything as it may have.
func validSizes(s api.System) bool {
	return field.Valid(s.Field) &&
		within(s.Rows, 1, min(api.MaxRows, field.Twos(s.Field))) &&
		within(s.Main, 1, maxMain) && within(s.Public, 0, maxPublic) &&
		len(s.Fixed) <= maxFixed && len(s.Rules) <= maxRules &&
		len(s.Perms) <= maxPerms && len(s.Lookups) <= maxLookups
}

// within reports whether n is from low to high.
func within(n, low, high int) bool { return n >= low && n <= high }

// all reports whether all parts are valid in a system.
func all[T any](s api.System, parts []T, valid func(api.System, T) bool) bool {
	for _, part := range parts {
		if !valid(s, part) {
			return false
		}
	}
	return true
}

// areColumns reports whether lists have an element for each row.
func areColumns(s api.System, lists [][]uint64) bool {
	return all(s, lists, func(s api.System, l []uint64) bool {
		return len(l) == 1<<s.Rows && field.Is(s.Field, l...)
	})
}

func validRule(s api.System, r api.Rule) bool {
	kinds := []api.VarKind{api.VarMain, api.VarFixed, api.VarPublic}
	switch r.On {
	case api.OnAll, api.OnSteps:
		kinds = append(kinds, api.VarNext)
	case api.OnFirst, api.OnLast:
		if mono.Degree(r.Sum) > 1 {
			return false
		}
	default:
		return false
	}
	return len(r.Sum) <= maxMonos && all(s, r.Sum, func(s api.System, m api.Mono) bool {
		return field.Is(s.Field, m.Coef) && len(m.Vars) <= maxVars && has(s, m.Vars, kinds...)
	})
}

func validPerm(s api.System, p api.Perm) bool {
	if !within(len(p.Left), 1, maxTuples) || len(p.Right) != len(p.Left) {
		return false
	}
	return all(s, slices.Concat(p.Left, p.Right), func(s api.System, tuple []api.Var) bool {
		return len(tuple) == len(p.Left[0]) && validTuple(s, tuple, api.VarMain, api.VarFixed)
	})
}

func validLookup(s api.System, l api.Lookup) bool {
	return len(l.Table) == len(l.Tuple) &&
		validTuple(s, l.Tuple, api.VarMain, api.VarFixed) && validTuple(s, l.Table, api.VarFixed) &&
		has(s, []api.Var{l.Count}, api.VarMain)
}

// validTuple reports whether a tuple has a possible length, and variables of the given kinds that the system has.
func validTuple(s api.System, tuple []api.Var, kinds ...api.VarKind) bool {
	return within(len(tuple), 1, maxLength) && has(s, tuple, kinds...)
}

// has reports whether all variables are of the given kinds, and a system has them.
func has(s api.System, vars []api.Var, kinds ...api.VarKind) bool {
	for _, v := range vars {
		if !within(v.Index, 0, number(s, v.Kind)-1) || !slices.Contains(kinds, v.Kind) {
			return false
		}
	}
	return true
}

// number returns how many variables of a kind a system has.
func number(s api.System, kind api.VarKind) int {
	switch kind {
	case api.VarMain, api.VarNext:
		return s.Main
	case api.VarFixed:
		return len(s.Fixed)
	case api.VarPublic:
		return s.Public
	}
	return 0
}
