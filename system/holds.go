package system

import (
	"strconv"

	"attestor/api"
	"attestor/field"
	"attestor/mono"
)

// Faults returns what does not hold of a trace, and where.
func Faults(s api.System, t api.Trace) ([]api.Fault, api.Errno) {
	if !Fits(s, t) {
		return nil, api.ErrArg
	}
	var rows []api.Env
	for row := range 1 << s.Rows {
		rows = append(rows, environment(s, t, row))
	}
	var out []api.Fault
	number := 0
	report := func(row int, holds bool) {
		if !holds {
			out = append(out, api.Fault{Rule: number, Row: row})
		}
	}
	for _, r := range s.Rules {
		for row := range len(rows) {
			report(row, !isAsked(r.On, row, len(rows)-1) || ruleHolds(s.Field, r, rows[row]))
		}
		number++
	}
	for _, p := range s.Perms {
		report(-1, permHolds(p, rows))
		number++
	}
	for _, l := range s.Lookups {
		report(-1, lookupHolds(s.Field, l, rows))
		number++
	}
	return out, api.OK
}

// Holds reports whether a system holds of a trace.
func Holds(s api.System, t api.Trace) (bool, api.Errno) {
	faults, e := Faults(s, t)
	return e == api.OK && len(faults) == 0, e
}

// isAsked reports whether a rule is asked in a row.
func isAsked(on api.On, row, last int) bool {
	switch on {
	case api.OnSteps:
		return row != last
	case api.OnFirst:
		return row == 0
	case api.OnLast:
		return row == last
	}
	return true
}

// ruleHolds reports whether a rule holds in the environment of a row.
func ruleHolds(f int, r api.Rule, env api.Env) bool {
	value, e := mono.Value(f, r.Sum, env)
	return value == 0 && e == api.OK
}

// permHolds reports whether a permutation holds.
func permHolds(p api.Perm, rows []api.Env) bool {
	surplus := map[string]int{} // how much more often each value is on the left
	count := func(tuples [][]api.Var, by int) {
		for _, env := range rows {
			for _, tuple := range tuples {
				surplus[text(tuple, env)] += by
			}
		}
	}
	count(p.Left, 1)
	count(p.Right, -1)
	for _, n := range surplus {
		if n != 0 {
			return false
		}
	}
	return true
}

// lookupHolds reports whether a lookup holds. A value that the table does not have needs no check of its own: 2^Rows divides P - 1, so that less than P rows use it, and these are not 0 modulo P.
func lookupHolds(f int, l api.Lookup, rows []api.Env) bool {
	surplus := map[string]uint64{} // how much more often than counted each value is used
	for _, env := range rows {
		tuple, table := text(l.Tuple, env), text(l.Table, env)
		surplus[tuple] = field.Add(f, surplus[tuple], 1)
		surplus[table] = field.Sub(f, surplus[table], valueOf(l.Count, env))
	}
	for _, n := range surplus {
		if n != 0 {
			return false
		}
	}
	return true
}

// text returns a string that no other value of tuples of this length has.
func text(tuple []api.Var, env api.Env) string {
	var b []byte
	for _, v := range tuple {
		b = strconv.AppendUint(b, valueOf(v, env), 10)
		b = append(b, ' ')
	}
	return string(b)
}

// valueOf returns the value of a variable of a tuple.
func valueOf(v api.Var, env api.Env) uint64 {
	if v.Kind == api.VarFixed {
		return env.Fixed[v.Index]
	}
	return env.Main[v.Index]
}
