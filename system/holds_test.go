package system

import (
	"math"
	"math/rand"
	"slices"
	"testing"

	"attestor/api"
)

// P13.2

func TestEnv(t *testing.T) {
	r := rand.New(rand.NewSource(233))
	for range 500 {
		s := someSystem(r, r.Intn(4))
		x := someTrace(r, s)
		for row := range 1 << s.Rows {
			wantEnv(t, s, x, row)
		}
	}
	for field, p := range primes {
		s := small(field)
		x := api.Trace{Public: []uint64{p - 1, 9}, Main: columns([]uint64{11, 12, 13, 14}, []uint64{21, 22, 23, 24}, []uint64{31, 32, 33, 34})}
		wanted := []api.Env{
			{Main: []uint64{11, 21, 31}, Next: []uint64{12, 22, 32}, Fixed: []uint64{1, 0}},
			{Main: []uint64{12, 22, 32}, Next: []uint64{13, 23, 33}, Fixed: []uint64{2, 0}},
			{Main: []uint64{13, 23, 33}, Next: []uint64{14, 24, 34}, Fixed: []uint64{3, 0}},
			{Main: []uint64{14, 24, 34}, Next: []uint64{11, 21, 31}, Fixed: []uint64{4, p - 1}},
		}
		for row, y := range wanted {
			y.Public = x.Public
			got, e := Env(s, x, row)
			want(t, "the environment", show(got), show(y))
			want(t, "the error", e, api.OK)
		}
	}
}

func TestEnvOfNoRow(t *testing.T) {
	r := rand.New(rand.NewSource(234))
	for range 100 {
		s := someSystem(r, r.Intn(4))
		x := someTrace(r, s)
		for _, row := range []int{-1, -2, 1 << s.Rows, 1<<s.Rows + 1, 1 << 32, -1 << 32, math.MinInt, math.MaxInt} {
			got, e := Env(s, x, row)
			if show(got) != show(api.Env{}) || e != api.ErrRange {
				t.Errorf("Env of the row %d of %d is %v, %d", row, 1<<s.Rows, got, e)
			}
		}
	}
}

// P13.3

func TestFaults(t *testing.T) {
	r := rand.New(rand.NewSource(235))
	for field := range primes {
		var held, rules, perms, lookups int // how often what holds
		for range 3000 {
			s := someSystem(r, field)
			x := someTrace(r, s)
			wanted := faultsOf(s, x)
			wantFaults(t, s, x, wanted...)
			if len(wanted) == 0 {
				held++
			}
			at := slices.IndexFunc(wanted, func(y api.Fault) bool { return y.Row < 0 })
			if at != 0 && len(s.Rules) > 0 {
				rules++
			}
			for i := range s.Perms {
				if !slices.Contains(wanted, api.Fault{Rule: len(s.Rules) + i, Row: -1}) {
					perms++
				}
			}
			for i := range s.Lookups {
				if !slices.Contains(wanted, api.Fault{Rule: len(s.Rules) + len(s.Perms) + i, Row: -1}) {
					lookups++
				}
			}
		}
		for _, count := range []int{held, rules, perms, lookups} {
			if count < 50 {
				t.Errorf("in the field %d too little holds: %d %d %d %d", field, held, rules, perms, lookups)
			}
		}
	}
}

// TestTheRowsInWhichRulesAreAsked: of rules that never hold, and of rules that hold in some rows only.
func TestTheRowsInWhichRulesAreAsked(t *testing.T) {
	for field, p := range primes {
		for rows := 1; rows <= 4; rows++ {
			s := api.System{Field: field, Rows: rows, Main: 1}
			rising := make([]uint64, 1<<rows)
			for i := range rising {
				rising[i] = uint64(i)
			}
			last := uint64(len(rising) - 1)
			for _, l := range [][]api.Mono{sum(term(1)), sum(term(1, m(0))), sum(term(1, m(0)), term(p-last)), sum(term(1, m(0)), term(p-1))} {
				for on := api.OnAll; on <= api.OnLast; on++ {
					s.Rules = append(s.Rules, api.Rule{On: on, Sum: l})
				}
			}
			wantFaults(t, s, trace(rising), faultsOf(s, trace(rising))...)
			var wanted []api.Fault
			for row := range last {
				wanted = append(wanted, api.Fault{Rule: 0, Row: int(row)})
			}
			s.Rules = []api.Rule{{On: api.OnSteps, Sum: sum(term(p - 1))}, {On: api.OnFirst}, {On: api.OnLast, Sum: sum(term(3))}}
			wantFaults(t, s, trace(rising), append(wanted, api.Fault{Rule: 2, Row: int(last)})...)
		}
	}
}

// TestTheNextRow: of the last row it is the first one.
func TestTheNextRow(t *testing.T) {
	for field, p := range primes {
		s := api.System{Field: field, Rows: 2, Main: 1, Rules: []api.Rule{{On: api.OnAll, Sum: sum(term(1, n(0)), term(p-1, m(0)), term(p-1))}}}
		wantFaults(t, s, trace([]uint64{0, 1, 2, 3}), api.Fault{Rule: 0, Row: 3})
		wantFaults(t, s, trace([]uint64{2, 3, 0, 1}), api.Fault{Rule: 0, Row: 1})
		wantFaults(t, s, trace([]uint64{p - 1, 0, 1, p - 2}), api.Fault{Rule: 0, Row: 2})
		s.Rules[0].On = api.OnSteps
		wantFaults(t, s, trace([]uint64{0, 1, 2, 3}))
		wantFaults(t, s, trace([]uint64{p - 1, 0, 1, 2}))
		wantFaults(t, s, trace([]uint64{2, 3, 0, 1}), api.Fault{Rule: 0, Row: 1})
	}
}

// TestPerms: values of tuples are the same only if all numbers are, in their order, and each counts as often as it occurs.
func TestPerms(t *testing.T) {
	one := api.Perm{Left: tuples(tuple(m(0), m(1))), Right: tuples(tuple(m(2), m(3)))}
	two := api.Perm{Left: tuples(tuple(m(0)), tuple(m(1))), Right: tuples(tuple(m(2)), tuple(m(3)))}
	for _, x := range []struct {
		perm  api.Perm
		main  [][]uint64
		holds bool
	}{
		{one, columns([]uint64{1, 2}, []uint64{3, 4}, []uint64{1, 2}, []uint64{3, 4}), true},
		{one, columns([]uint64{1, 2}, []uint64{3, 4}, []uint64{2, 1}, []uint64{4, 3}), true},
		{one, columns([]uint64{1, 2}, []uint64{3, 4}, []uint64{1, 2}, []uint64{4, 3}), false},
		{one, columns([]uint64{1, 2}, []uint64{3, 4}, []uint64{3, 4}, []uint64{1, 2}), false},
		{one, columns([]uint64{1, 1}, []uint64{3, 3}, []uint64{1, 1}, []uint64{3, 3}), true},
		{one, columns([]uint64{1, 1}, []uint64{3, 3}, []uint64{1, 1}, []uint64{3, 4}), false},
		{one, columns([]uint64{1, 11}, []uint64{23, 2}, []uint64{12, 11}, []uint64{3, 2}), false},
		{one, columns([]uint64{1, 12}, []uint64{12, 1}, []uint64{11, 12}, []uint64{2, 1}), false},
		{one, columns([]uint64{0, 0}, []uint64{0, 0}, []uint64{0, 0}, []uint64{0, 0}), true},
		{two, columns([]uint64{1, 2}, []uint64{3, 4}, []uint64{4, 3}, []uint64{2, 1}), true},
		{two, columns([]uint64{1, 2}, []uint64{3, 4}, []uint64{1, 3}, []uint64{2, 4}), true},
		{two, columns([]uint64{1, 1}, []uint64{2, 2}, []uint64{1, 2}, []uint64{1, 2}), true},
		{two, columns([]uint64{1, 1}, []uint64{1, 2}, []uint64{1, 2}, []uint64{2, 2}), false},
		{two, columns([]uint64{1, 1}, []uint64{1, 2}, []uint64{1, 2}, []uint64{1, 1}), true},
		{two, columns([]uint64{1, 2}, []uint64{1, 2}, []uint64{1, 2}, []uint64{1, 3}), false},
		{two, columns([]uint64{1, 2}, []uint64{1, 2}, []uint64{1, 1}, []uint64{1, 1}), false},
		{two, columns([]uint64{1, 1}, []uint64{1, 1}, []uint64{1, 2}, []uint64{1, 2}), false},
	} {
		for field := range primes {
			s := api.System{Field: field, Rows: 1, Main: 4, Perms: []api.Perm{x.perm}}
			var wanted []api.Fault
			if !x.holds {
				wanted = []api.Fault{{Rule: 0, Row: -1}}
			}
			wantFaults(t, s, trace(x.main...), wanted...)
			s.Perms[0].Left, s.Perms[0].Right = s.Perms[0].Right, s.Perms[0].Left
			wantFaults(t, s, trace(x.main...), wanted...)
		}
	}
}

// TestPermsCountWithoutEnd: how often a value occurs does not count modulo P. Here 0 occurs 97 times more often on the left, and 1 on the right.
func TestPermsCountWithoutEnd(t *testing.T) {
	s := api.System{Rows: 5, Main: 5, Perms: []api.Perm{{
		Left:  tuples(tuple(m(0)), tuple(m(1)), tuple(m(2)), tuple(m(3))),
		Right: tuples(tuple(m(4)), tuple(m(4)), tuple(m(4)), tuple(m(4))),
	}}}
	ones := slices.Repeat([]uint64{1}, 32)
	x := trace(make([]uint64, 32), make([]uint64, 32), make([]uint64, 32), slices.Clone(ones), ones)
	x.Main[3][0] = 0
	wantFaults(t, s, x, api.Fault{Rule: 0, Row: -1})
	s.Perms[0].Left, s.Perms[0].Right = s.Perms[0].Right, s.Perms[0].Left
	wantFaults(t, s, x, api.Fault{Rule: 0, Row: -1})
}

func TestLookups(t *testing.T) {
	one := api.Lookup{Tuple: tuple(m(0)), Table: tuple(f(0)), Count: m(1)}
	two := api.Lookup{Tuple: tuple(m(0), m(2)), Table: tuple(f(0), f(1)), Count: m(1)}
	for field, p := range primes {
		for _, x := range []struct {
			look         api.Lookup
			f0, f1       []uint64
			m0, count, b []uint64
			holds        bool
		}{
			{one, []uint64{5, 6, 7, 8}, nil, []uint64{5, 6, 7, 8}, []uint64{1, 1, 1, 1}, nil, true},
			{one, []uint64{5, 6, 7, 8}, nil, []uint64{8, 7, 6, 5}, []uint64{1, 1, 1, 1}, nil, true},
			{one, []uint64{5, 6, 7, 8}, nil, []uint64{6, 6, 6, 6}, []uint64{0, 4, 0, 0}, nil, true},
			{one, []uint64{5, 6, 7, 8}, nil, []uint64{6, 6, 6, 6}, []uint64{0, 3, 0, 0}, nil, false},
			{one, []uint64{5, 6, 7, 8}, nil, []uint64{6, 6, 6, 6}, []uint64{0, 0, 4, 0}, nil, false},
			{one, []uint64{5, 6, 7, 8}, nil, []uint64{6, 6, 6, 6}, []uint64{0, 4, 0, 1}, nil, false}, // counted but not used
			{one, []uint64{5, 6, 7, 8}, nil, []uint64{6, 6, 6, 9}, []uint64{0, 3, 0, 0}, nil, false}, // used but not in the table
			{one, []uint64{5, 6, 7, 8}, nil, []uint64{6, 6, 6, 9}, []uint64{0, 3, 0, 1}, nil, false},
			{one, []uint64{5, 6, 7, 8}, nil, []uint64{9, 9, 9, 9}, []uint64{0, 0, 0, 0}, nil, false},
			{one, []uint64{5, 6, 6, 6}, nil, []uint64{6, 6, 6, 5}, []uint64{1, 1, 1, 1}, nil, true}, // several rows of the table have a value
			{one, []uint64{5, 6, 6, 6}, nil, []uint64{6, 6, 6, 5}, []uint64{1, 3, 0, 0}, nil, true},
			{one, []uint64{5, 6, 6, 6}, nil, []uint64{6, 6, 6, 5}, []uint64{1, 0, 2, 0}, nil, false},
			{one, []uint64{5, 6, 6, 6}, nil, []uint64{6, 6, 6, 5}, []uint64{1, p - 1, 2, 2}, nil, true}, // modulo P
			{one, []uint64{5, 6, 6, 6}, nil, []uint64{6, 6, 6, 5}, []uint64{1, p - 1, p - 1, 5}, nil, true},
			{one, []uint64{5, 6, 6, 7}, nil, []uint64{5, 5, 5, 5}, []uint64{4, 1, p - 1, 0}, nil, true}, // not used, and counted 0 times
			{one, []uint64{5, 6, 6, 7}, nil, []uint64{5, 5, 5, 5}, []uint64{4, 1, p - 2, 0}, nil, false},
			{one, []uint64{0, 0, 0, 0}, nil, []uint64{0, 0, 0, 0}, []uint64{p - 1, p - 2, 3, 4}, nil, true},
			{one, []uint64{0, 0, 0, 0}, nil, []uint64{0, 0, 0, 0}, []uint64{0, 0, 0, 0}, nil, false},
			{two, []uint64{1, 1, 2, 2}, []uint64{3, 4, 3, 4}, []uint64{1, 2, 2, 1}, []uint64{1, 1, 1, 1}, []uint64{3, 3, 4, 4}, true},
			{two, []uint64{1, 1, 2, 2}, []uint64{3, 4, 3, 4}, []uint64{1, 2, 2, 1}, []uint64{1, 1, 1, 1}, []uint64{3, 3, 4, 3}, false},
			{two, []uint64{1, 1, 2, 2}, []uint64{3, 4, 3, 4}, []uint64{1, 2, 2, 1}, []uint64{2, 0, 1, 1}, []uint64{3, 3, 4, 3}, true},
			{two, []uint64{1, 1, 2, 2}, []uint64{3, 4, 3, 4}, []uint64{1, 2, 1, 2}, []uint64{0, 2, 0, 2}, []uint64{4, 4, 4, 4}, true},
			{two, []uint64{1, 1, 2, 2}, []uint64{3, 4, 3, 4}, []uint64{3, 3, 4, 4}, []uint64{1, 1, 1, 1}, []uint64{1, 2, 1, 2}, false},
			{two, []uint64{1, 1, 1, 1}, []uint64{23, 23, 23, 23}, []uint64{12, 12, 12, 12}, []uint64{1, 1, 1, 1}, []uint64{3, 3, 3, 3}, false},
			{two, []uint64{1, 12, 1, 12}, []uint64{23, 3, 23, 3}, []uint64{12, 12, 12, 12}, []uint64{0, 2, 0, 2}, []uint64{3, 3, 3, 3}, true},
		} {
			s := api.System{Field: field, Rows: 2, Main: 3, Fixed: columns(x.f0), Lookups: []api.Lookup{x.look}}
			if x.b == nil {
				x.b = []uint64{0, 0, 0, 0}
			} else {
				s.Fixed = columns(x.f0, x.f1)
			}
			var wanted []api.Fault
			if !x.holds {
				wanted = []api.Fault{{Rule: 0, Row: -1}}
			}
			wantFaults(t, s, trace(x.m0, x.count, x.b), wanted...)
		}
	}
}

// TestTheCountMayBeInTheTuple: and the tuple in the table.
func TestTheCountMayBeInTheTuple(t *testing.T) {
	s := api.System{Rows: 1, Main: 1, Fixed: columns([]uint64{1, 1}), Lookups: []api.Lookup{{Tuple: tuple(m(0)), Table: tuple(f(0)), Count: m(0)}}}
	wantFaults(t, s, trace([]uint64{1, 1}))
	wantFaults(t, s, trace([]uint64{2, 0}), api.Fault{Rule: 0, Row: -1})
	wantFaults(t, s, trace([]uint64{0, 2}), api.Fault{Rule: 0, Row: -1})
	s.Lookups[0].Tuple = tuple(f(0))
	wantFaults(t, s, trace([]uint64{1, 1}))
	wantFaults(t, s, trace([]uint64{2, 0}))
	wantFaults(t, s, trace([]uint64{2, 1}), api.Fault{Rule: 0, Row: -1})
}

// TestTheNumbersOfFaults: permutations are counted on after the rules, and lookups after the permutations.
func TestTheNumbersOfFaults(t *testing.T) {
	for field := range primes {
		no, yes := api.Rule{On: api.OnLast, Sum: sum(term(1))}, api.Rule{On: api.OnAll}
		badPerm := api.Perm{Left: tuples(tuple(m(0))), Right: tuples(tuple(m(1)))}
		goodPerm := api.Perm{Left: tuples(tuple(m(0))), Right: tuples(tuple(f(0)))}
		badLook := api.Lookup{Tuple: tuple(m(0)), Table: tuple(f(0)), Count: m(0)}
		goodLook := api.Lookup{Tuple: tuple(m(0)), Table: tuple(f(0)), Count: m(1)}
		s := api.System{Field: field, Rows: 1, Main: 2, Fixed: columns([]uint64{6, 5})}
		s.Rules = []api.Rule{no, yes, no, yes}
		s.Perms = []api.Perm{badPerm, goodPerm, goodPerm, badPerm}
		s.Lookups = []api.Lookup{goodLook, badLook, badLook, goodLook, badLook}
		x := trace([]uint64{5, 6}, []uint64{1, 1})
		wantFaults(t, s, x, []api.Fault{{Rule: 0, Row: 1}, {Rule: 2, Row: 1}, {Rule: 4, Row: -1}, {Rule: 7, Row: -1}, {Rule: 9, Row: -1}, {Rule: 10, Row: -1}, {Rule: 12, Row: -1}}...)
		s.Rules = nil
		wantFaults(t, s, x, []api.Fault{{Rule: 0, Row: -1}, {Rule: 3, Row: -1}, {Rule: 5, Row: -1}, {Rule: 6, Row: -1}, {Rule: 8, Row: -1}}...)
		s.Perms = nil
		wantFaults(t, s, x, []api.Fault{{Rule: 1, Row: -1}, {Rule: 2, Row: -1}, {Rule: 4, Row: -1}}...)
		s.Lookups = nil
		wantFaults(t, s, x)
		s.Rules, s.Lookups = []api.Rule{yes, no}, []api.Lookup{goodLook, badLook}
		wantFaults(t, s, x, []api.Fault{{Rule: 1, Row: 1}, {Rule: 3, Row: -1}}...)
	}
}

// TestTheGreatestTraces: with all rows that a field allows.
func TestTheGreatestTraces(t *testing.T) {
	for field, p := range primes {
		s := api.System{Field: field, Rows: min(13, twos[field]), Main: 2}
		size := 1 << s.Rows
		rising, falling := make([]uint64, size), make([]uint64, size)
		for i := range rising {
			rising[i], falling[size-1-i] = uint64(i), uint64(i)
		}
		ones := slices.Repeat([]uint64{1}, size)
		s.Fixed = columns(falling)
		s.Rules = []api.Rule{{On: api.OnSteps, Sum: sum(term(1, n(0)), term(p-1, m(0)), term(p-1))}, {On: api.OnFirst, Sum: sum(term(1, m(0)))}}
		s.Perms = []api.Perm{{Left: tuples(tuple(m(0))), Right: tuples(tuple(f(0)))}}
		s.Lookups = []api.Lookup{{Tuple: tuple(m(0)), Table: tuple(f(0)), Count: m(1)}}
		wantFaults(t, s, trace(rising, ones))
		wantEnv(t, s, trace(rising, ones), size-1)
		ones[size/2] = 0
		wantFaults(t, s, trace(rising, ones), api.Fault{Rule: 3, Row: -1})
		rising[size-1] = 0
		wantFaults(t, s, trace(rising, ones), []api.Fault{{Rule: 0, Row: size - 2}, {Rule: 2, Row: -1}, {Rule: 3, Row: -1}}...)
	}
}
