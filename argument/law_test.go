package argument

import (
	"math"
	"math/rand"
	"slices"
	"testing"

	"attestor/api"
	"attestor/field"
	"attestor/gap"
	"attestor/system"
)

// P14.4

// rowsOn returns the rows in which a constraint is asked.
func rowsOn(s api.System, on api.On) []int {
	var all []int
	for row := range 1 << s.Rows {
		all = append(all, row)
	}
	last := len(all) - 1
	return map[api.On][]int{api.OnAll: all, api.OnSteps: all[:last], api.OnFirst: all[:1], api.OnLast: all[last:]}[on]
}

// wrong returns the constraints that are not 0 in all rows in which they are asked.
func wrong(t *testing.T, s api.System, x api.Trace, aux [][]uint64, c, d uint64) []int {
	t.Helper()
	var values [][]uint64
	for row := range 1 << s.Rows {
		l, e := Values(s, inRow(s, x, aux, row, c, d))
		want(t, "the error", e, api.OK)
		values = append(values, l)
	}
	ons := Ons(s)
	want(t, "how many constraints there are", len(ons), len(values[0]))
	var out []int
	for i, on := range ons {
		if slices.ContainsFunc(rowsOn(s, on), func(row int) bool { return values[row][i] != 0 }) {
			out = append(out, i)
		}
	}
	return out
}

// holding returns a system that holds of a trace: the columns 2 and 3 have the pairs of 0 and 1 in another order, the columns 4 and 5 together the values of 0 and 1, the column 6 values of the fixed column 0, counted in the column 7, and the fixed column 1 what the rules ask for.
func holding(r *rand.Rand, field int) (api.System, api.Trace) {
	p := primes[field]
	s := api.System{Field: field, Rows: 1 + r.Intn(4), Main: 8, Public: 1}
	size := 1 << s.Rows
	x := api.Trace{Public: list(r, 1, p), Main: lists(r, 6, size, []uint64{2, 5, p}[r.Intn(3)])}
	s.Fixed = lists(r, 1, size, []uint64{2, p}[r.Intn(2)])
	both := slices.Concat(x.Main[0], x.Main[1])
	r.Shuffle(len(both), func(i, j int) { both[i], both[j] = both[j], both[i] })
	x.Main[4], x.Main[5] = slices.Clone(both[:size]), slices.Clone(both[size:])
	for to, from := range r.Perm(size) {
		x.Main[2][to], x.Main[3][to] = x.Main[0][from], x.Main[1][from]
	}
	used, count := make([]uint64, size), make([]uint64, size)
	for i := range used {
		row := r.Intn(size)
		used[i] = s.Fixed[0][row]
		count[row] = plus(field, count[row], 1)
	}
	x.Main = append(x.Main, used, count)
	asked := make([]uint64, size)
	for i := range asked {
		asked[i] = plus(field, times(field, x.Main[0][(i+1)%size], x.Main[1][i]), x.Public[0])
	}
	asked[size-1] = plus(field, asked[size-1], 1)
	s.Fixed = append(s.Fixed, asked)
	one, minusOne, public := uint64(1), p-1, api.Var{Kind: api.VarPublic}
	s.Rules = []api.Rule{
		{On: api.OnSteps, Sum: sum(term(one, n(0), m(1)), term(one, public), term(minusOne, f(1)))},
		{On: api.OnAll},
		{On: api.OnFirst, Sum: sum(term(one, m(0)), term(minusOne*x.Main[0][0]%p))},
		{On: api.OnLast, Sum: sum(term(one, m(5)), term(minusOne*x.Main[5][size-1]%p))},
	}
	s.Perms = []api.Perm{
		{Left: tuples(tuple(m(0), m(1))), Right: tuples(tuple(m(2), m(3)))},
		{Left: tuples(tuple(m(0)), tuple(m(1))), Right: tuples(tuple(m(4)), tuple(m(5)))},
		{Left: tuples(tuple(m(2), m(3)), tuple(f(0), m(6))), Right: tuples(tuple(f(0), m(6)), tuple(m(0), m(1)))},
	}
	s.Lookups = []api.Lookup{
		{Tuple: tuple(m(6)), Table: tuple(f(0)), Count: m(7)},
		{Tuple: tuple(m(6), m(6)), Table: tuple(f(0), f(0)), Count: m(7)},
	}
	return s, x
}

func TestCompleteness(t *testing.T) {
	r := rand.New(rand.NewSource(250))
	for field, p := range primes {
		found := 0
		for range 300 {
			s, x := holding(r, field)
			ok, e := system.Holds(s, x)
			want(t, "whether the system holds", ok && e == api.OK, true)
			c, d := r.Uint64()%p, r.Uint64()%p
			aux, e := Columns(s, x, c, d)
			if e != api.OK {
				want(t, "the error", e, api.ErrNone)
				continue
			}
			found++
			want(t, "what is wrong", show(wrong(t, s, x, aux, c, d)), "[]")
		}
		if found < 30 {
			t.Errorf("in the field %d there are columns only %d times", field, found)
		}
	}
}

// TestEachPartMatters: a system that does not hold has, for most challenges, a constraint that is not 0, and it is the one of the part that does not hold.
func TestEachPartMatters(t *testing.T) {
	r := rand.New(rand.NewSource(251))
	bad := map[int]int{}
	for range 300 {
		s, x := holding(r, 3)
		column := r.Intn(8)
		row := r.Intn(1 << s.Rows)
		x.Main[column][row] = plus(3, x.Main[column][row], 1+r.Uint64()%1000)
		faults, _ := system.Faults(s, x)
		var wanted []int
		for _, fault := range faults {
			at := fault.Rule
			if fault.Row < 0 { // a permutation or a lookup, which has two constraints
				at = len(s.Rules) + 2*(fault.Rule-len(s.Rules))
			}
			wanted = append(wanted, at)
			bad[at]++
		}
		c, d := r.Uint64()%primes[3], r.Uint64()%primes[3]
		aux, e := Columns(s, x, c, d)
		want(t, "the error", e, api.OK)
		want(t, "what is wrong", show(wrong(t, s, x, aux, c, d)), show(slices.Compact(wanted)))
	}
	for _, at := range []int{0, 2, 3, 4, 6, 8, 10, 12} {
		if bad[at] < 5 {
			t.Errorf("the part at %d is wrong only %d times", at, bad[at])
		}
	}
}

// TestTheStepsOfAnyTrace: the columns begin and go on as they must, up to the last row, whether the system holds or not.
func TestTheStepsOfAnyTrace(t *testing.T) {
	r := rand.New(rand.NewSource(252))
	for range 500 {
		s := someSystem(r, 3)
		x := someTrace(r, s)
		c, d := r.Uint64()%primes[3], r.Uint64()%primes[3]
		aux, e := Columns(s, x, c, d)
		want(t, "the error", e, api.OK)
		for row := range 1 << s.Rows {
			values, _ := Values(s, inRow(s, x, aux, row, c, d))
			for i := range Count(s) {
				at := len(s.Rules) + 2*i
				want(t, "a step", row < 1<<s.Rows-1 && values[at] != 0, false)
				want(t, "a beginning", row == 0 && values[at+1] != 0, false)
			}
		}
	}
}

// P14.5

// tuplesIn returns the values of tuples in all rows.
func tuplesIn(s api.System, x api.Trace, list ...[]api.Var) [][]uint64 {
	var out [][]uint64
	for row := range 1 << s.Rows {
		env := inRow(s, x, nil, row, 0, 0)
		for _, vars := range list {
			var values []uint64
			for _, v := range vars {
				values = append(values, valueIn(v, env))
			}
			out = append(out, values)
		}
	}
	return out
}

// TestSoundnessForAnyColumns: all columns that begin with one of some numbers are tried. At most one fulfils the constraints, and only if the products or the sums are the same.
func TestSoundnessForAnyColumns(t *testing.T) {
	r := rand.New(rand.NewSource(253))
	same, different := 0, 0
	for range 80 {
		c, d := r.Uint64()%97, r.Uint64()%97
		s := api.System{Rows: 1, Main: 2, Fixed: lists(r, 2, 2, 2)}
		x := someTrace(r, s)
		for i := range x.Main {
			x.Main[i] = list(r, 2, 2)
		}
		perms, lookups := s, s
		perms.Perms = []api.Perm{somePerm(r, s)}
		lookups.Lookups = []api.Lookup{someLookup(r, s)}
		for _, s := range []api.System{perms, lookups} {
			if _, e := Columns(s, x, c, d); e != api.OK {
				continue
			}
			var fulfilled [][]uint64
			for _, z := range numbers(0, 1, 2, 96) {
				for next := range uint64(97) {
					if len(wrong(t, s, x, columns(numbers(z, next)), c, d)) == 0 {
						fulfilled = append(fulfilled, numbers(z, next))
					}
				}
			}
			if !isBalanced(s, x, c, d) {
				want(t, "how many columns fulfil the constraints", len(fulfilled), 0)
				different++
				continue
			}
			same++
			wantColumns(t, s, x, c, d, fulfilled...)
		}
	}
	if same < 5 || different < 5 {
		t.Errorf("%d times the same, %d times not", same, different)
	}
}

// isBalanced reports whether the products of all weights on the left and on the right are the same, or the sums of the fractions, without the program.
func isBalanced(s api.System, x api.Trace, c, d uint64) bool {
	left, right, total := uint64(1), uint64(1), uint64(0)
	for row := range 1 << s.Rows {
		env := inRow(s, x, nil, row, c, d)
		for _, y := range s.Perms {
			left, right = times(s.Field, left, productIn(s.Field, y.Left, env)), times(s.Field, right, productIn(s.Field, y.Right, env))
		}
		for _, y := range s.Lookups {
			total = plus(s.Field, total, over(s.Field, 1, weightIn(s.Field, y.Tuple, env)))
			total = minus(s.Field, total, over(s.Field, valueIn(y.Count, env), weightIn(s.Field, y.Table, env)))
		}
	}
	return left == right && total == 0
}

// isBelow reports whether count of all pairs of challenges are at most the bound.
func isBelow(count int, bound api.Ratio, e api.Errno) bool {
	top, bottom := uint64(0), uint64(1)
	if len(bound.Num) > 0 {
		top = uint64(bound.Num[0])
	}
	if len(bound.Den) > 0 {
		bottom = uint64(bound.Den[0])
	}
	return e == api.OK && len(bound.Num) <= 1 && len(bound.Den) <= 1 && uint64(count)*bottom <= top*97*97
}

// accepted returns for how many pairs of challenges there are columns that fulfil all constraints, and for how many there are none.
func accepted(t *testing.T, s api.System, x api.Trace) (yes, none int) {
	t.Helper()
	for c := range uint64(97) {
		for d := range uint64(97) {
			aux, e := Columns(s, x, c, d)
			if e == api.ErrNone {
				none++
			} else if len(wrong(t, s, x, aux, c, d)) == 0 {
				yes++
			}
		}
	}
	return yes, none
}

// TestSoundnessOfPerms: counted against chapter 11. The pairs for which a weight is 0 are not accepted, though the products may be 0 on both sides.
func TestSoundnessOfPerms(t *testing.T) {
	r := rand.New(rand.NewSource(254))
	for _, length := range []int{1, 2, 3} {
		for range 3 {
			s := api.System{Rows: 1, Main: 4, Fixed: lists(r, 1, 2, 97)}
			s.Perms = []api.Perm{{Left: tuples(someTuple(r, s, length, api.VarMain)), Right: tuples(someTuple(r, s, length, api.VarMain))}}
			x := trace(lists(r, 4, 2, 4)...)
			left, right := tuplesIn(s, x, s.Perms[0].Left...), tuplesIn(s, x, s.Perms[0].Right...)
			yes, none := accepted(t, s, x)
			equal, e := gap.Equal(0, left, right)
			want(t, "the error", e, api.OK)
			want(t, "whether not more are accepted than counted", yes <= equal && yes >= equal-none, true)
			if ok, _ := system.Holds(s, x); ok {
				want(t, "how many are accepted or have none", yes+none, 97*97)
				continue
			}
			bound, e := gap.EqualBound(0, len(left), length)
			want(t, "whether the bound holds", isBelow(yes, bound, e), true)
		}
	}
}

// TestSoundnessOfLookups: likewise. Here the pairs are the very ones that are counted.
func TestSoundnessOfLookups(t *testing.T) {
	r := rand.New(rand.NewSource(255))
	for _, length := range []int{1, 2, 3} {
		for range 3 {
			s := api.System{Rows: 1, Main: 4, Fixed: lists(r, 3, 2, 3)}
			s.Lookups = []api.Lookup{{Tuple: someTuple(r, s, length, api.VarMain), Table: someTuple(r, s, length, api.VarFixed), Count: m(3)}}
			x := trace(lists(r, 4, 2, 3)...)
			used, table := tuplesIn(s, x, s.Lookups[0].Tuple), tuplesIn(s, x, s.Lookups[0].Table)
			yes, none := accepted(t, s, x)
			found, e := gap.Found(0, used, table, x.Main[3])
			want(t, "the error", e, api.OK)
			want(t, "how many are accepted", yes, found)
			if ok, _ := system.Holds(s, x); ok {
				want(t, "how many are accepted or have none", yes+none, 97*97)
				continue
			}
			bound, e := gap.FoundBound(0, len(used), len(table), length)
			want(t, "whether the bound holds", isBelow(yes, bound, e), true)
		}
	}
}

// P1

// wildVar returns any variable, often one that may stand in a tuple.
func wildVar(r *rand.Rand) api.Var {
	return api.Var{
		Kind:  []api.VarKind{api.VarMain, api.VarMain, api.VarNext, api.VarFixed, api.VarPublic, api.VarNone, api.VarAux, 8, 255}[r.Intn(9)],
		Index: []int{0, 0, 0, 1, 1, 2, 63, 64, -1, math.MinInt, math.MaxInt}[r.Intn(11)],
	}
}

func wildTuple(r *rand.Rand) []api.Var {
	var out []api.Var
	for range r.Intn(4) {
		out = append(out, wildVar(r))
	}
	return out
}

// nearlyValid returns a system that is valid but perhaps for one part.
func nearlyValid(r *rand.Rand) api.System {
	s := someSystem(r, r.Intn(4))
	wild := []int{0, 1, 2, 3, 65, -1, 1 << 32, math.MinInt, math.MaxInt}[r.Intn(9)]
	switch r.Intn(12) {
	case 0:
		s.Field = wild
	case 1:
		s.Rows = wild
	case 2:
		s.Main = wild
	case 3:
		s.Public = wild
	case 4:
		s.Fixed = lists(r, r.Intn(3), r.Intn(5), greatest)
	case 5:
		s.Rules = append(s.Rules, api.Rule{On: api.On(r.Intn(6)), Sum: sum(term(r.Uint64()>>r.Intn(64), wildTuple(r)...))})
	case 6:
		s.Perms = append(s.Perms, api.Perm{Left: tuples(wildTuple(r)), Right: tuples(wildTuple(r))})
	case 7:
		s.Lookups = append(s.Lookups, api.Lookup{Tuple: wildTuple(r), Table: wildTuple(r), Count: wildVar(r)})
	}
	return s
}

// saying is what all functions say of some arguments.
type saying struct {
	count                int
	ons, values, columns string
	noValues, noColumns  api.Errno
	weight               uint64
}

func answers(s api.System, env api.Env, x api.Trace, c, d uint64) saying {
	out := saying{count: Count(s), ons: show(Ons(s)), weight: Weight(s.Field, env.Aux, c, d)}
	values, e := Values(s, env)
	out.values, out.noValues = show(values), e
	aux, e := Columns(s, x, c, d)
	out.columns, out.noColumns = show(aux), e
	return out
}

func TestAllArgumentsHaveAnAnswerThatStays(t *testing.T) {
	r := rand.New(rand.NewSource(256))
	valid, errors := 0, map[api.Errno]int{}
	for range 5000 {
		s := nearlyValid(r)
		fitting := someSystem(r, r.Intn(4))
		if system.Valid(s) {
			fitting = s
			valid++
		}
		env, x := someEnv(r, fitting), someTrace(r, fitting)
		if r.Intn(3) == 0 {
			l := listsOf(&env)[r.Intn(7)]
			*l = (*l)[:r.Intn(len(*l)+1)]
		}
		if r.Intn(5) == 0 {
			x.Main[0] = x.Main[0][1:]
		}
		c, d := r.Uint64()%97, r.Uint64()%97
		if r.Intn(5) == 0 {
			d = r.Uint64() >> r.Intn(64)
		}
		once := answers(s, env, x, c, d)
		want(t, "the second answer", answers(copied(s), copiedEnv(env), copiedTrace(x), c, d), once)
		errors[once.noColumns]++
		errors[once.noValues]++
		if !system.Valid(s) {
			want(t, "the answer about an invalid system", once, saying{ons: "[]", values: "[]", columns: "[]", noValues: api.ErrArg, noColumns: api.ErrArg, weight: once.weight})
		}
		want(t, "whether values are wrong only of an invalid system", once.noValues == api.ErrArg, !system.Valid(s))
		want(t, "whether columns are wrong only of a misfit", once.noColumns == api.ErrArg, !system.Fits(s, x) || !field.Is(s.Field, c, d))
		want(t, "whether values come without an error", once.noValues != api.OK && once.values != "[]", false)
		want(t, "whether columns come without an error", once.noColumns != api.OK && once.columns != "[]", false)
	}
	if valid < 1000 || errors[api.ErrArg] < 100 || errors[api.ErrRange] < 100 || errors[api.ErrNone] < 100 || len(errors) != 4 {
		t.Errorf("%d systems are valid; errors %v", valid, errors)
	}
}

// TestLongLists: what is too long for a system is not valid, and what is too long in an environment is ignored.
func TestLongLists(t *testing.T) {
	long := make([]uint64, 1<<20)
	s := rich(2)
	env := api.Env{Main: long, Next: long, Fixed: long, Public: long, Aux: long, AuxNext: long, Challenge: long}
	wantValues(t, s, env, valuesOf(s, env)...)
	wantNoColumns(t, s, api.Trace{Public: numbers(1, 2), Main: columns(long, long, long)}, 1, 1, api.ErrArg)
	s.Perms = make([]api.Perm, 1<<20)
	wantNoValues(t, s, env, api.ErrArg)
	want(t, "Count of a long list", Count(s), 0)
	want(t, "Ons of a long list", len(Ons(s)), 0)
	for i := range long {
		long[i] = 2
	}
	want(t, "Weight of a long list", Weight(0, long, 0, 96), 0)
	want(t, "Weight of a longer list", Weight(0, append(long, 3), 1, 96), 4)
}

// Rule 3

func TestArgumentsStayAsTheyAre(t *testing.T) {
	r := rand.New(rand.NewSource(257))
	for range 300 {
		s := someSystem(r, r.Intn(4))
		env, x := someEnv(r, s), someTrace(r, s)
		before, envBefore, traceBefore := copied(s), copiedEnv(env), copiedTrace(x)
		answers(s, env, x, 5, 6)
		want(t, "whether the system stays", show(s), show(before))
		want(t, "whether the environment stays", show(env), show(envBefore))
		want(t, "whether the trace stays", show(x), show(traceBefore))
	}
}

// TestListsWithRoomStayAsTheyAre: also behind their ends.
func TestListsWithRoomStayAsTheyAre(t *testing.T) {
	s := rich(2)
	env := someEnv(rand.New(rand.NewSource(258)), s)
	var rooms []*[]uint64
	for _, l := range listsOf(&env) {
		room := append(slices.Clone(*l), numbers(1, 2, 3, 4, 5, 6, 7, 8)...)
		*l = room[:len(*l)]
		rooms = append(rooms, &room)
	}
	room := tuples(tuple(m(0), f(0)), tuple(m(1), f(1)), tuple(m(2), m(2)))
	s.Perms[0].Left = room[:2]
	x := api.Trace{Public: numbers(1, 2, 3)[:2], Main: columns(make([]uint64, 8)[:4], make([]uint64, 8)[:4], make([]uint64, 8)[:4])}
	answers(s, env, x, 5, 6)
	for _, l := range rooms {
		want(t, "what is behind the values", show((*l)[len(*l)-8:]), "[1 2 3 4 5 6 7 8]")
	}
	want(t, "what is behind the tuples", show(room), show(tuples(tuple(m(0), f(0)), tuple(m(1), f(1)), tuple(m(2), m(2)))))
	want(t, "what is behind the inputs", x.Public[:3][2], 3)
	want(t, "what is behind a column", show(x.Main[0][:8]), show(make([]uint64, 8)))
}

func TestResultsShareNoMemory(t *testing.T) {
	r := rand.New(rand.NewSource(259))
	spoil := func(l []uint64) {
		l = l[:cap(l)]
		for i := range l {
			l[i] = 77777
		}
	}
	for range 300 {
		s := someSystem(r, 3)
		env, x := someEnv(r, s), someTrace(r, s)
		once := answers(s, env, x, 123, 456)
		ons := Ons(s)
		for i := range ons {
			ons[i] = api.OnNone
		}
		values, _ := Values(s, env)
		other, _ := Values(s, env)
		before := show(other)
		spoil(values)
		want(t, "the other values", show(other), before)
		aux, _ := Columns(s, x, 123, 456)
		others, _ := Columns(s, x, 123, 456)
		before = show(others)
		for i := range aux {
			rest := show(aux[i+1:])
			spoil(aux[i])
			want(t, "the other columns", show(aux[i+1:]), rest)
		}
		want(t, "the columns of the other call", show(others), before)
		want(t, "the answer", answers(s, env, x, 123, 456), once)
	}
}

// The examples of the chapter

func TestExamples(t *testing.T) {
	want(t, "Weight", Weight(0, numbers(3, 4), 10, 2), 21)
	wantColumns(t, perm(), trace(numbers(5, 6)), 1, 0, numbers(1, 84))
	wantColumns(t, lookup(), trace(numbers(5, 5), numbers(0, 2)), 1, 0, numbers(0, 81))
	wantNoColumns(t, perm(), trace(numbers(5, 6)), 92, 0, api.ErrNone)
	want(t, "Ons of the Perm", show(Ons(perm())), show([]api.On{api.OnAll, api.OnFirst}))
}
