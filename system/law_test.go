package system

import (
	"errors"
	"math"
	"math/rand"
	"slices"
	"testing"

	"attestor/api"
)

// P13.4

// reading takes numbers from the beginning of a list.
type reading []uint64

func (l *reading) number() int {
	x := (*l)[0]
	*l = (*l)[1:]
	return int(x)
}

func (l *reading) variable() api.Var {
	kind := l.number()
	return api.Var{Kind: api.VarKind(kind), Index: l.number()}
}

func (l *reading) tuple(length int) []api.Var {
	var out []api.Var
	for range length {
		out = append(out, l.variable())
	}
	return out
}

func (l *reading) rule() api.Rule {
	out := api.Rule{On: api.On(l.number())}
	for range l.number() {
		coef := l.number()
		out.Sum = append(out.Sum, term(uint64(coef), l.tuple(l.number())...))
	}
	return out
}

func (l *reading) perm() api.Perm {
	var out api.Perm
	number, length := l.number(), l.number()
	for range number {
		out.Left = append(out.Left, l.tuple(length))
	}
	for range number {
		out.Right = append(out.Right, l.tuple(length))
	}
	return out
}

func (l *reading) lookup() api.Lookup {
	length := l.number()
	return api.Lookup{Tuple: l.tuple(length), Table: l.tuple(length), Count: l.variable()}
}

// read returns the system with some words, and empty fixed columns.
func read(words []uint64) (api.System, error) {
	l := reading(words)
	s := api.System{Field: l.number(), Rows: l.number(), Main: l.number(), Public: l.number(), Fixed: make([][]uint64, l.number())}
	rules, perms, lookups := l.number(), l.number(), l.number()
	for range rules {
		s.Rules = append(s.Rules, l.rule())
	}
	for range perms {
		s.Perms = append(s.Perms, l.perm())
	}
	for range lookups {
		s.Lookups = append(s.Lookups, l.lookup())
	}
	if len(l) > 0 {
		return s, errors.New("more words")
	}
	return s, nil
}

// checkWords reads words back, without the program.
func checkWords(t *testing.T, s api.System) {
	t.Helper()
	got, e := read(Words(s))
	wanted := copied(s)
	for i := range wanted.Fixed {
		wanted.Fixed[i] = nil
	}
	if show(got) != show(wanted) || e != nil {
		t.Errorf("Words of %v is those of %v, %v", wanted, got, e)
	}
}

func TestWords(t *testing.T) {
	wanted := []uint64{1, 2, 3, 2, 2, 4, 1, 1}
	wanted = append(wanted, 1, 2, 1, 4, 1, 0, 2, 1, 3, 1, 4, 1, 2, 0)
	wanted = append(wanted, 2, 2, 1, 1, 2, 2, 2, 1, 1, 2)
	wanted = append(wanted, 3, 2, 1, 1, 1, 0, 2, 2, 4, 0, 4, 1)
	wanted = append(wanted, 4, 2, 1, 2, 3, 0, 4, 0, 2, 1, 1, 1)
	wanted = append(wanted, 2, 2, 1, 0, 3, 0, 1, 1, 3, 1, 3, 0, 1, 2, 1, 0, 1, 0)
	wanted = append(wanted, 2, 1, 0, 3, 1, 3, 0, 3, 1, 1, 2)
	if got := Words(small(1)); !slices.Equal(got, wanted) {
		t.Errorf("Words of a small system is %v, not %v", got, wanted)
	}
	if got := Words(api.System{Field: 3, Rows: 13, Main: 64, Public: 16}); !slices.Equal(got, []uint64{3, 13, 64, 16, 0, 0, 0, 0}) {
		t.Errorf("Words of a system without anything is %v", got)
	}
	if got := Words(counter()); !slices.Equal(got, []uint64{0, 1, 1, 0, 0, 1, 0, 0, 2, 3, 1, 1, 2, 0, 96, 1, 1, 0, 96, 0}) {
		t.Errorf("Words of the counter is %v", got)
	}
	for field := range primes {
		checkWords(t, rich(field))
		checkWords(t, small(field))
	}
	r := rand.New(rand.NewSource(236))
	for range 2000 {
		checkWords(t, someSystem(r, r.Intn(4)))
	}
}

// TestTheValuesOfFixedColumnsAreNoWords: only their number is one.
func TestTheValuesOfFixedColumnsAreNoWords(t *testing.T) {
	r := rand.New(rand.NewSource(237))
	for range 200 {
		s := someSystem(r, r.Intn(4))
		other := copied(s)
		other.Fixed = lists(r, len(s.Fixed), 1<<s.Rows, primes[s.Field])
		want(t, "whether the words are the same", slices.Equal(Words(s), Words(other)), true)
		other.Fixed = append(other.Fixed, make([]uint64, 1<<s.Rows))
		want(t, "whether the words are the same with one more", slices.Equal(Words(s), Words(other)), false)
	}
}

// P13.5

func TestASystemHoldsIfItHasNoFaults(t *testing.T) {
	r := rand.New(rand.NewSource(238))
	for range 2000 {
		s := someSystem(r, r.Intn(4))
		x := someTrace(r, s)
		faults, e := Faults(s, x)
		ok, g := Holds(s, x)
		want(t, "Holds", ok, len(faults) == 0)
		want(t, "the error of Faults", e, api.OK)
		want(t, "the error of Holds", g, api.OK)
	}
}

// shifted returns columns whose rows are those some rows before, cyclically.
func shifted(l [][]uint64, by int) [][]uint64 {
	var out [][]uint64
	for _, c := range l {
		out = append(out, slices.Concat(c[len(c)-by:], c[:len(c)-by]))
	}
	return out
}

func TestShiftedRows(t *testing.T) {
	r := rand.New(rand.NewSource(239))
	for range 1000 {
		s := someSystem(r, r.Intn(4))
		for i := range s.Rules {
			if s.Rules[i].On == api.OnSteps {
				s.Rules[i].On = api.OnAll
			} else if s.Rules[i].On != api.OnAll {
				s.Rules[i] = api.Rule{On: api.OnAll}
			}
		}
		x := someTrace(r, s)
		faults, _ := Faults(s, x)
		for by := range 1 << s.Rows {
			moved := copied(s)
			moved.Fixed = shifted(s.Fixed, by)
			var wanted []api.Fault
			for _, fault := range faults {
				if fault.Row >= 0 {
					fault.Row = (fault.Row + by) % (1 << s.Rows)
				}
				wanted = append(wanted, fault)
			}
			slices.SortStableFunc(wanted, func(a, b api.Fault) int { return (a.Rule-b.Rule)*(1<<20) + a.Row - b.Row })
			wantFaults(t, moved, api.Trace{Public: x.Public, Main: shifted(x.Main, by)}, wanted...)
		}
	}
}

// TestDifferentSystemsHaveDifferentWords: they differ in one place only.
func TestDifferentSystemsHaveDifferentWords(t *testing.T) {
	r := rand.New(rand.NewSource(240))
	for range 300 {
		s := someSystem(r, r.Intn(4))
		s.Main += 2
		others := []api.System{s}
		change := func(do func(x *api.System)) {
			x := copied(s)
			do(&x)
			others = append(others, x)
		}
		change(func(x *api.System) { x.Main++ })
		change(func(x *api.System) { x.Public++ })
		change(func(x *api.System) { x.Rules = append(x.Rules, api.Rule{On: api.OnAll}) })
		change(func(x *api.System) { x.Rules = append(x.Rules, api.Rule{On: api.OnFirst}) })
		change(func(x *api.System) { x.Rules = append(x.Rules, api.Rule{On: api.OnAll, Sum: sum(term(0))}) })
		change(func(x *api.System) { x.Rules = append(x.Rules, api.Rule{On: api.OnAll, Sum: sum(term(1))}) })
		change(func(x *api.System) {
			x.Perms = append(x.Perms, api.Perm{Left: tuples(tuple(m(0))), Right: tuples(tuple(m(1)))})
		})
		change(func(x *api.System) {
			x.Perms = append(x.Perms, api.Perm{Left: tuples(tuple(m(1))), Right: tuples(tuple(m(0)))})
		})
		change(func(x *api.System) {
			x.Perms = append(x.Perms, api.Perm{Left: tuples(tuple(m(0), m(1))), Right: tuples(tuple(m(0), m(1)))})
		})
		change(func(x *api.System) {
			x.Perms = append(x.Perms, api.Perm{Left: tuples(tuple(m(0)), tuple(m(1))), Right: tuples(tuple(m(0)), tuple(m(1)))})
		})
		for i, x := range others {
			for j, y := range others {
				want(t, "whether the words are the same", slices.Equal(Words(x), Words(y)), i == j)
			}
		}
	}
}

// P1

// wildVar returns any variable, often one that may stand in a rule.
func wildVar(r *rand.Rand) api.Var {
	return api.Var{
		Kind:  []api.VarKind{api.VarMain, api.VarMain, api.VarNext, api.VarFixed, api.VarPublic, api.VarNone, api.VarAux, 8, 255}[r.Intn(9)],
		Index: []int{0, 0, 0, 1, 1, 2, 63, 64, -1, math.MinInt, math.MaxInt}[r.Intn(11)],
	}
}

func wildTuple(r *rand.Rand) []api.Var {
	var out []api.Var
	for range r.Intn(4) {
		out = append(out, wildVar(r))
	}
	return out
}

func wildLists(r *rand.Rand) [][]uint64 {
	return lists(r, r.Intn(4), []int{0, 1, 2, 2, 4, 5, 100}[r.Intn(7)], []uint64{1, 2, 98, greatest}[r.Intn(4)])
}

// wildNumber returns any number, often one that a system may have.
func wildNumber(r *rand.Rand) int {
	return []int{0, 1, 1, 1, 2, 2, 3, 5, 13, 16, 64, 65, -1, 1 << 32, math.MinInt, math.MaxInt}[r.Intn(16)]
}

// wildSystem returns any system.
func wildSystem(r *rand.Rand) api.System {
	s := api.System{Field: r.Intn(6) - 1, Rows: wildNumber(r), Main: wildNumber(r), Public: wildNumber(r), Fixed: wildLists(r)}
	for range r.Intn(3) {
		x := api.Rule{On: api.On(r.Intn(6))}
		for range r.Intn(3) {
			x.Sum = append(x.Sum, term(r.Uint64()>>r.Intn(64), wildTuple(r)...))
		}
		s.Rules = append(s.Rules, x)
	}
	for range r.Intn(2) {
		var x api.Perm
		for range r.Intn(3) {
			x.Left = append(x.Left, wildTuple(r))
		}
		for range r.Intn(3) {
			x.Right = append(x.Right, wildTuple(r))
		}
		s.Perms = append(s.Perms, x)
	}
	for range r.Intn(2) {
		s.Lookups = append(s.Lookups, api.Lookup{Tuple: wildTuple(r), Table: wildTuple(r), Count: wildVar(r)})
	}
	return s
}

// nearlyValid returns a valid system with one part of any other system.
func nearlyValid(r *rand.Rand) api.System {
	s, other := someSystem(r, r.Intn(4)), wildSystem(r)
	switch r.Intn(9) {
	case 0:
		s.Field = other.Field
	case 1:
		s.Rows = other.Rows
	case 2:
		s.Main = other.Main
	case 3:
		s.Public = other.Public
	case 4:
		s.Fixed = other.Fixed
	case 5:
		s.Rules = append(s.Rules, other.Rules...)
	case 6:
		s.Perms = append(s.Perms, other.Perms...)
	case 7:
		s.Lookups = append(s.Lookups, other.Lookups...)
	}
	return s
}

// saying is what all functions say of some arguments.
type saying struct {
	valid, fits, holds      bool
	degree                  int
	env, faults, words      string
	noEnv, noFaults, noHold api.Errno
}

func answers(s api.System, x api.Trace, row int) saying {
	out := saying{valid: Valid(s), fits: Fits(s, x), degree: Degree(s), words: show(Words(s))}
	env, e := Env(s, x, row)
	out.env, out.noEnv = show(env), e
	faults, e := Faults(s, x)
	out.faults, out.noFaults = show(faults), e
	out.holds, out.noHold = Holds(s, x)
	return out
}

func TestAllArgumentsHaveAnAnswerThatStays(t *testing.T) {
	r := rand.New(rand.NewSource(241))
	rows := []int{0, 1, 2, -1, 16, math.MinInt, math.MaxInt}
	valid := 0
	for range 5000 {
		s, row := nearlyValid(r), rows[r.Intn(len(rows))]
		if r.Intn(3) == 0 {
			s = wildSystem(r)
		}
		x := api.Trace{Public: lists(r, 1, r.Intn(3), 99)[0], Main: wildLists(r)}
		if r.Intn(2) == 0 {
			x = zeros(s)
		}
		once := answers(s, x, row)
		want(t, "the second answer", answers(copied(s), copiedTrace(x), row), once)
		if once.valid {
			valid++
		} else {
			none := saying{env: show(api.Env{}), faults: "[]", words: "[]", noEnv: api.ErrArg, noFaults: api.ErrArg, noHold: api.ErrArg}
			want(t, "the answer about an invalid system", once, none)
		}
		want(t, "whether an error is that of a misfit", once.noFaults == api.ErrArg, !once.fits)
		want(t, "whether all errors are", once.noEnv == api.ErrArg && once.noHold == api.ErrArg, !once.fits)
	}
	if valid < 100 {
		t.Errorf("only %d systems are valid", valid)
	}
}

// TestLongLists: what is too long is not valid, however long it is.
func TestLongLists(t *testing.T) {
	n := 1 << 20
	change := func(do func(s *api.System)) {
		s := small(0)
		do(&s)
		wantInvalid(t, "a system with a long list", s)
	}
	change(func(s *api.System) { s.Fixed = make([][]uint64, n) })
	change(func(s *api.System) { s.Fixed[0] = make([]uint64, n) })
	change(func(s *api.System) { s.Rules = make([]api.Rule, n) })
	change(func(s *api.System) { s.Rules[3].Sum = make([]api.Mono, n) })
	change(func(s *api.System) { s.Rules[3].Sum[0].Vars = slices.Repeat(tuple(p(0)), n) })
	change(func(s *api.System) { s.Perms = make([]api.Perm, n) })
	change(func(s *api.System) { s.Perms[0].Left, s.Perms[0].Right = make([][]api.Var, n), make([][]api.Var, n) })
	change(func(s *api.System) { s.Perms[0].Left[0] = slices.Repeat(tuple(m(0)), n) })
	change(func(s *api.System) { s.Lookups = make([]api.Lookup, n) })
	change(func(s *api.System) {
		s.Lookups[0].Tuple, s.Lookups[0].Table = slices.Repeat(tuple(f(0)), n), slices.Repeat(tuple(f(0)), n)
	})
	wantMisfit(t, "long columns", small(0), trace(make([]uint64, n), make([]uint64, n), make([]uint64, n)))
	wantMisfit(t, "many columns", small(0), api.Trace{Public: make([]uint64, 2), Main: make([][]uint64, n)})
	wantMisfit(t, "many inputs", small(0), api.Trace{Public: make([]uint64, n), Main: zeros(small(0)).Main})
}

// Rule 3

func TestArgumentsStayAsTheyAre(t *testing.T) {
	r := rand.New(rand.NewSource(242))
	for range 500 {
		s := someSystem(r, r.Intn(4))
		x := someTrace(r, s)
		before, traceBefore := copied(s), copiedTrace(x)
		answers(s, x, r.Intn(1<<s.Rows))
		want(t, "whether the system stays", show(s), show(before))
		want(t, "whether the trace stays", show(x), show(traceBefore))
	}
}

// TestListsWithRoomStayAsTheyAre: also behind their ends.
func TestListsWithRoomStayAsTheyAre(t *testing.T) {
	s := small(2)
	room := tuples(tuple(m(0), f(0)), tuple(m(1), f(1)), tuple(m(2), m(2)), tuple(m(2), m(2)))
	s.Perms[0].Left, s.Perms[0].Right = room[:2], slices.Clone(room)[2:]
	public := []uint64{1, 2, 3, 4, 5, 6, 7, 8}
	x := zeros(s)
	x.Public = public[:2]
	answers(s, x, 0)
	want(t, "what is behind the tuples", show(room), show(tuples(tuple(m(0), f(0)), tuple(m(1), f(1)), tuple(m(2), m(2)), tuple(m(2), m(2)))))
	want(t, "what is behind the inputs", show(public), "[1 2 3 4 5 6 7 8]")
}

func TestResultsShareNoMemory(t *testing.T) {
	r := rand.New(rand.NewSource(243))
	spoil := func(l []uint64) {
		l = l[:cap(l)]
		for i := range l {
			l[i] = 77777
		}
	}
	for range 500 {
		s := someSystem(r, r.Intn(4))
		x := someTrace(r, s)
		row := r.Intn(1 << s.Rows)
		once := answers(s, x, row)
		env, _ := Env(s, x, row)
		for _, l := range []*[]uint64{&env.Main, &env.Next, &env.Fixed, &env.Public, &env.Aux, &env.AuxNext, &env.Challenge} {
			spoil(*l)
			*l = nil
			want(t, "the answer", answers(s, x, row), once)
		}
		one, _ := Env(s, x, row)
		other, _ := Env(s, x, row)
		for _, l := range [][]uint64{one.Main, one.Next, one.Fixed, one.Public} {
			before := show(other)
			spoil(l)
			want(t, "the other environment", show(other), before)
		}
		faults, _ := Faults(s, x)
		for i := range faults {
			faults[i] = api.Fault{Rule: 77, Row: 77}
		}
		spoil(Words(s))
		want(t, "the answer", answers(s, x, row), once)
	}
}

// TestTheListsOfAnEnvironmentShareNoMemory: not even if all columns are the same list.
func TestTheListsOfAnEnvironmentShareNoMemory(t *testing.T) {
	l := []uint64{1, 1}
	s := api.System{Rows: 1, Main: 2, Public: 2, Fixed: columns(l, l)}
	for i := range 4 {
		env, _ := Env(s, api.Trace{Public: l, Main: columns(l, l)}, 1)
		all := [][]uint64{env.Main, env.Next, env.Fixed, env.Public}
		all[i][0], all[i][1] = 5, 5
		for j := range all {
			want(t, "a list", show(all[j]), map[bool]string{true: "[5 5]", false: "[1 1]"}[i == j])
		}
		want(t, "the columns", show(l), "[1 1]")
	}
}

// The examples of the chapter

func TestExamples(t *testing.T) {
	s := counter()
	wantFaults(t, s, trace([]uint64{5, 6}))
	wantFaults(t, s, trace([]uint64{5, 5}), api.Fault{Rule: 0, Row: 0})
	want(t, "Degree of the counter", Degree(s), 1)
	s.Rules[0].On = api.OnAll
	wantFaults(t, s, trace([]uint64{5, 6}), api.Fault{Rule: 0, Row: 1})
	perm := api.System{Rows: 1, Main: 1, Fixed: columns([]uint64{6, 5}), Perms: []api.Perm{{Left: tuples(tuple(m(0))), Right: tuples(tuple(f(0)))}}}
	wantFaults(t, perm, trace([]uint64{5, 6}))
	look := api.System{Rows: 1, Main: 2, Fixed: columns([]uint64{6, 5}), Lookups: []api.Lookup{{Tuple: tuple(m(0)), Table: tuple(f(0)), Count: m(1)}}}
	wantFaults(t, look, trace([]uint64{5, 5}, []uint64{0, 2}))
	wantFaults(t, look, trace([]uint64{5, 5}, []uint64{2, 0}), api.Fault{Rule: 0, Row: -1})
	perm.Perms[0] = api.Perm{Left: tuples(tuple(m(0)), tuple(f(0))), Right: tuples(tuple(f(0)), tuple(m(0)))}
	want(t, "Degree with two tuples on the left", Degree(perm), 3)
}
