package argument

import (
	"math/rand"
	"slices"
	"testing"

	"attestor/api"
)

// P14.3

func TestColumns(t *testing.T) {
	r := rand.New(rand.NewSource(248))
	for field, p := range primes {
		found, none := 0, 0
		for range 600 {
			s := someSystem(r, field)
			x := someTrace(r, s)
			c, d := r.Uint64()%p, r.Uint64()%p
			wanted, defined := columnsOfTrace(s, x, c, d)
			if defined {
				wantColumns(t, s, x, c, d, wanted...)
				found += len(wanted)
			} else {
				wantNoColumns(t, s, x, c, d, api.ErrNone)
				none++
			}
		}
		if found < 300 || none < 30 && field < 2 {
			t.Errorf("in the field %d there are %d columns, and %d times none", field, found, none)
		}
	}
}

// TestColumnsOfSmallNumbers: the columns of permutations and lookups that do not hold too.
func TestColumnsOfSmallNumbers(t *testing.T) {
	s := perm()
	s.Rows, s.Fixed[0] = 2, numbers(3, 1, 0, 1)
	wantColumns(t, s, trace(numbers(1, 1, 0, 3)), 1, 0, numbers(1, 49, 49, 49)) // 2 / 4, 2 / 2, 1 / 1, 4 / 2
	wantColumns(t, s, trace(numbers(7, 15, 4, 5)), 1, 0, numbers(1, 2, 16, 80)) // 8 / 4, 16 / 2, 5 / 1: not in another order
	wantColumns(t, s, trace(numbers(7, 15, 4, 96)), 1, 0, numbers(1, 2, 16, 80))
	wantColumns(t, s, trace(numbers(96, 15, 4, 5)), 1, 0, numbers(1, 0, 0, 0)) // the weight on the left may be 0
	s = lookup()
	s.Rows, s.Fixed[0] = 2, numbers(1, 95, 0, 48)
	wantColumns(t, s, trace(numbers(0, 0, 95, 0), numbers(2, 3, 4, 5)), 1, 0, numbers(0, 0, 4, 96)) // 1 - 2 / 2, 1 + 3, -1 - 4
	wantColumns(t, s, trace(numbers(0, 0, 95, 0), numbers(0, 0, 0, 0)), 1, 0, numbers(0, 1, 2, 1))
}

// TestColumnsOfAMisfit: also if the weights by which they would divide are 0.
func TestColumnsOfAMisfit(t *testing.T) {
	for field, p := range primes {
		s := rich(field)
		good := api.Trace{Public: numbers(1, 2), Main: columns(numbers(1, 2, 3, 4), numbers(5, 6, 7, 8), numbers(9, 1, 2, 3))}
		change := func(do func(x *api.Trace)) {
			x := copiedTrace(good)
			do(&x)
			wantNoColumns(t, s, x, 20, 1, api.ErrArg)
			wantNoColumns(t, s, x, 0, 0, api.ErrArg)
		}
		if _, e := Columns(s, good, 20, 1); e != api.OK {
			t.Errorf("Columns of a trace that fits returns %d", e)
		}
		change(func(x *api.Trace) { x.Public = x.Public[:1] })
		change(func(x *api.Trace) { x.Public = append(x.Public, 1) })
		change(func(x *api.Trace) { x.Public[0] = p })
		change(func(x *api.Trace) { x.Main = x.Main[:2] })
		change(func(x *api.Trace) { x.Main = append(x.Main, x.Main[0]) })
		change(func(x *api.Trace) { x.Main[2] = x.Main[2][:3] })
		change(func(x *api.Trace) { x.Main[2] = append(x.Main[2], 1) })
		change(func(x *api.Trace) { x.Main[0][3] = p })
		change(func(x *api.Trace) { x.Main[0][0] = greatest })
		for _, x := range invalid(field) {
			wantNoColumns(t, x, good, 20, 1, api.ErrArg)
			wantNoColumns(t, x, api.Trace{}, 20, 1, api.ErrArg)
		}
	}
}

// TestColumnsForChallengesThatAreNoElements: also without permutations and lookups.
func TestColumnsForChallengesThatAreNoElements(t *testing.T) {
	for field, p := range primes {
		for _, s := range []api.System{several(field, 0, 0), several(field, 1, 0), several(field, 0, 1)} {
			x := api.Trace{Public: numbers(1, 2), Main: columns(numbers(1, 2, 3, 4), numbers(5, 6, 7, 8), numbers(9, 1, 2, 3))}
			for _, bad := range numbers(p, p+1, 2*p, 1<<32, 1<<63, greatest) {
				wantNoColumns(t, s, x, bad, 1, api.ErrArg)
				wantNoColumns(t, s, x, 20, bad, api.ErrArg)
				wantNoColumns(t, s, x, bad, bad, api.ErrArg)
				wantNoColumns(t, s, x, 0, bad, api.ErrArg) // where a weight is 0
			}
			wanted, _ := columnsOfTrace(s, x, 20, p-1)
			wantColumns(t, s, x, 20, p-1, wanted...)
		}
		none := several(field, 0, 0)
		none.Public = 0
		none.Rules = nil
		for _, c := range numbers(0, 1, p-1) {
			wantColumns(t, none, trace(make([]uint64, 4), make([]uint64, 4), make([]uint64, 4)), c, p-1-c)
		}
	}
}

// TestNoColumnsIfAWeightIs0: that of a right tuple, of a lookup's tuple or of its table, in any row, the last one included.
func TestNoColumnsIfAWeightIs0(t *testing.T) {
	for field, p := range primes {
		c := p - 9 // the weight of 9 is 0
		ones, good := slices.Repeat(numbers(1), 8), slices.Repeat(numbers(2), 8)
		s := api.System{Field: field, Rows: 3, Main: 3, Fixed: columns(ones, good)}
		onLeft := api.Perm{Left: tuples(tuple(m(0)), tuple(f(0))), Right: tuples(tuple(f(0)), tuple(m(1)))}
		onRight := api.Perm{Left: tuples(tuple(f(0)), tuple(f(0))), Right: tuples(tuple(f(0)), tuple(m(0)))}
		count := api.Lookup{Tuple: tuple(m(1)), Table: tuple(f(0)), Count: m(0)}
		used := api.Lookup{Tuple: tuple(m(0)), Table: tuple(f(0)), Count: m(1)}
		listed := api.Lookup{Tuple: tuple(m(1)), Table: tuple(f(1)), Count: m(2)}
		for row := range 8 {
			x := trace(slices.Clone(ones), ones, ones)
			x.Main[0][row] = 9
			bad := slices.Clone(good)
			bad[row] = 9
			for _, perms := range [][]api.Perm{nil, {onLeft}, {onRight}, {onLeft, onRight}, {onRight, onLeft}} {
				for _, lookups := range [][]api.Lookup{nil, {count}, {used}, {listed}, {count, used}, {used, count}, {count, listed}, {listed, count}} {
					s.Perms, s.Lookups = perms, lookups
					for _, last := range [][]uint64{good, bad} {
						s.Fixed[1] = last
						wanted, defined := columnsOfTrace(s, x, c, 0)
						if defined {
							wantColumns(t, s, x, c, 0, wanted...)
						} else {
							wantNoColumns(t, s, x, c, 0, api.ErrNone)
						}
					}
				}
			}
		}
	}
}

// TestColumnsOfTheGreatestTraces: with all rows that a field allows, all columns and all tuples.
func TestColumnsOfTheGreatestTraces(t *testing.T) {
	r := rand.New(rand.NewSource(249))
	for field, p := range primes[2:] {
		s := api.System{Field: 2 + field, Rows: min(13, twos[2+field]), Main: 64}
		s.Fixed = lists(r, 64, 1<<s.Rows, p)
		for range 4 {
			var x api.Perm
			for range 4 {
				x.Left = append(x.Left, someTuple(r, s, 4, api.VarMain, api.VarFixed))
				x.Right = append(x.Right, someTuple(r, s, 4, api.VarMain, api.VarFixed))
			}
			s.Perms = append(s.Perms, x)
		}
		for range 8 {
			s.Lookups = append(s.Lookups, api.Lookup{Tuple: someTuple(r, s, 4, api.VarMain), Table: someTuple(r, s, 4, api.VarFixed), Count: m(r.Intn(64))})
		}
		x := someTrace(r, s)
		c, d := r.Uint64()%p, r.Uint64()%p
		got, e := Columns(s, x, c, d)
		if field == 0 { // a weight is 0 in some of so many rows
			want(t, "the error", e, api.ErrNone)
			continue
		}
		want(t, "the error", e, api.OK)
		want(t, "how many columns there are", len(got), 12)
		for _, row := range []int{0, 1, 1<<s.Rows - 2} {
			values, e := Values(s, inRow(s, x, got, row, c, d))
			want(t, "the error", e, api.OK)
			for i := range 12 {
				want(t, "a step", values[2*i], 0)
				want(t, "whether a column begins as it must", values[2*i+1] == 0, row == 0)
			}
		}
	}
}
