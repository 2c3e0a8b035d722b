package compose

import (
	"math"
	"math/rand"
	"slices"
	"testing"

	"attestor/api"
	"attestor/argument"
	"attestor/system"
)

// P15.5

// holding returns a system of a degree of at most 3 that holds of a trace: the columns 2 and 3 have the pairs of 0 and 1 in another order, the columns 4 and 5 together the values of 0 and 1, the column 6 values of the fixed column 0, counted in the column 7, and the fixed column 1 what the rules ask for.
func holding(r *rand.Rand, field, rows int) (api.System, api.Trace) {
	p, size := primes[field], 1<<rows
	s := api.System{Field: field, Rows: rows, Main: 8, Public: 1, Fixed: lists(r, 1, size, []uint64{2, p}[r.Intn(2)])}
	x := api.Trace{Public: list(r, 1, p), Main: lists(r, 6, size, []uint64{2, 5, p}[r.Intn(3)])}
	both := slices.Concat(x.Main[0], x.Main[1])
	r.Shuffle(len(both), func(i, j int) { both[i], both[j] = both[j], both[i] })
	x.Main[4], x.Main[5] = slices.Clone(both[:size]), slices.Clone(both[size:])
	for to, from := range r.Perm(size) {
		x.Main[2][to], x.Main[3][to] = x.Main[0][from], x.Main[1][from]
	}
	used, count, steps := make([]uint64, size), make([]uint64, size), make([]uint64, size)
	for i := range size {
		row := r.Intn(size)
		used[i] = s.Fixed[0][row]
		count[row]++
		steps[i] = plus(field, times(field, times(field, x.Main[0][(i+1)%size], x.Main[1][i]), x.Main[2][i]), x.Public[0])
	}
	steps[size-1] = plus(field, steps[size-1], 1)
	x.Main, s.Fixed = append(x.Main, used, count), append(s.Fixed, steps)
	one, minusOne, public := uint64(1), p-1, api.Var{Kind: api.VarPublic}
	s.Rules = []api.Rule{
		{On: api.OnSteps, Sum: sum(term(one, n(0), m(1), m(2)), term(one, public), term(minusOne, f(1)))},
		{On: api.OnAll, Sum: sum(term(one, m(0), n(1)), term(minusOne, n(1), m(0)))},
		{On: api.OnFirst, Sum: sum(term(one, m(0)), term(minusOne*x.Main[0][0]%p))},
		{On: api.OnLast, Sum: sum(term(one, m(5)), term(minusOne*x.Main[5][size-1]%p))},
	}
	s.Perms = []api.Perm{
		{Left: tuples(tuple(m(0), m(1))), Right: tuples(tuple(m(2), m(3)))},
		{Left: tuples(tuple(m(0)), tuple(m(1))), Right: tuples(tuple(m(4)), tuple(m(5)))},
	}
	s.Lookups = []api.Lookup{
		{Tuple: tuple(m(6)), Table: tuple(f(0)), Count: m(7)},
		{Tuple: tuple(m(6), m(6)), Table: tuple(f(0), f(0)), Count: m(7)},
	}
	return s, x
}

// blowUp returns some rows and a blow-up that is possible for systems of a degree of at most 3 with these rows.
func blowUp(r *rand.Rand, field int) (rows, blow int) {
	if field == 0 {
		return 1 + r.Intn(2), 3
	}
	return 1 + r.Intn(4), 3
}

// wantJoined reports columns whose Join is not the composition at each wide point, and columns that are those of polynomials of degree n or more.
func wantJoined(t *testing.T, s api.System, w api.Wide, a uint64, l [][]uint64) {
	t.Helper()
	k := s.Rows + w.Blow
	want(t, "how many columns there are", len(l), Segments(s))
	for i := range 1 << k {
		x := widePoint(s.Field, k, i)
		var parts []uint64
		for _, column := range l {
			parts = append(parts, column[i])
		}
		got, e := At(s, inWideRow(w, i), x, a)
		want(t, "the error", e, api.OK)
		want(t, "the composition", got, Join(s.Field, s.Rows, parts, x))
	}
	for _, column := range l {
		h := coefficients(s.Field, k, column)
		want(t, "whether a segment has more coefficients", slices.ContainsFunc(h[1<<s.Rows:], func(c uint64) bool { return c != 0 }), false)
	}
}

func TestCompleteness(t *testing.T) {
	r := rand.New(rand.NewSource(270))
	for field, p := range primes {
		found := 0
		for range 60 {
			rows, blow := blowUp(r, field)
			s, x := holding(r, field, rows)
			ok, _ := system.Holds(s, x)
			want(t, "whether the system holds", ok, true)
			c, d := r.Uint64()%p, r.Uint64()%p
			aux, e := argument.Columns(s, x, c, d)
			if e != api.OK {
				continue
			}
			found++
			w := wide(t, s, x, aux, blow, c, d)
			for _, a := range numbers(0, 1, p-1, r.Uint64()%p) {
				l, e := Columns(s, w, a)
				want(t, "the error", e, api.OK)
				wantJoined(t, s, w, a, l)
			}
		}
		if found < 10 {
			t.Errorf("in the field %d there are columns only %d times", field, found)
		}
	}
}

// TestCompletenessForAllChallenges: in the field 0, whatever a is, and for each part alone.
func TestCompletenessForAllChallenges(t *testing.T) {
	r := rand.New(rand.NewSource(271))
	found := map[int]int{}
	for i := range 80 {
		s, x := holding(r, 0, 1+r.Intn(2))
		all := s
		part := i % 6
		s.Rules, s.Perms, s.Lookups = nil, nil, nil
		switch {
		case part < 4:
			s.Rules = all.Rules[part : part+1]
		case part == 4:
			s.Perms = all.Perms
		default:
			s.Lookups = all.Lookups
		}
		c, d := r.Uint64()%97, r.Uint64()%97
		aux, e := argument.Columns(s, x, c, d)
		if e != api.OK {
			continue
		}
		found[part]++
		w := wide(t, s, x, aux, 3, c, d)
		for a := range uint64(97) {
			_, e := Columns(s, w, a)
			want(t, "the error", e, api.OK)
		}
	}
	for part := range 6 {
		if found[part] < 3 {
			t.Errorf("the part %d is tried only %d times", part, found[part])
		}
	}
}

// TestCompletenessAtTheLeastBlowUp: for rules of all degrees, 2^b is twice the degree, or not much more.
func TestCompletenessAtTheLeastBlowUp(t *testing.T) {
	r := rand.New(rand.NewSource(272))
	for field, p := range primes[1:] {
		field++
		for degree := 1; degree <= 8; degree++ {
			s := api.System{Field: field, Rows: 1 + r.Intn(3), Main: 3, Fixed: make([][]uint64, 4)}
			x := api.Trace{Main: lists(r, 3, 1<<s.Rows, p)}
			for i, on := range ons {
				most := degree
				kinds := []api.VarKind{api.VarMain, api.VarNext}
				if on == api.OnFirst || on == api.OnLast {
					most, kinds = 1, kinds[:1]
				}
				product := term(1, someTuple(r, s, most, kinds...)...)
				s.Fixed[i] = make([]uint64, 1<<s.Rows)
				for row := range s.Fixed[i] {
					s.Fixed[i][row] = r.Uint64() % p
				}
				for _, row := range asked(s.Rows, on) {
					s.Fixed[i][row] = productIn(s.Field, product, x, row)
				}
				s.Rules = append(s.Rules, api.Rule{On: on, Sum: sum(product, term(p-1, f(i)))})
			}
			ok, _ := system.Holds(s, x)
			want(t, "whether the system holds", ok, true)
			blow := 1
			for 1<<blow < 2*degree {
				blow++
			}
			w := wide(t, s, x, nil, blow)
			a := r.Uint64() % p
			l, e := Columns(s, w, a)
			want(t, "the error", e, api.OK)
			wantJoined(t, s, w, a, l)
		}
	}
}

// productIn returns the product of the main columns' values in a row of a trace.
func productIn(field int, x api.Mono, trace api.Trace, row int) uint64 {
	out := x.Coef
	for _, v := range x.Vars {
		column := trace.Main[v.Index]
		if v.Kind == api.VarNext {
			out = times(field, out, column[(row+1)%len(column)])
		} else {
			out = times(field, out, column[row])
		}
	}
	return out
}

// P15.6

// wrong returns how many constraints there are, and how many of them are not 0 in a row in which they are asked.
func wrong(s api.System, x api.Trace, aux [][]uint64, c, d uint64) (all, bad int) {
	w := api.Wide{Fixed: s.Fixed, Main: x.Main, Aux: aux, Public: x.Public, Challenge: numbers(c, d)} // with one wide row for each row
	list := argument.Ons(s)
	for j, on := range list {
		if slices.ContainsFunc(asked(s.Rows, on), func(row int) bool {
			values, _ := argument.Values(s, inWideRow(w, row))
			return values[j] != 0
		}) {
			bad++
		}
	}
	return len(list), bad
}

// TestSoundness: for systems and traces of all kinds, with any argument columns, all a are tried.
func TestSoundness(t *testing.T) {
	r := rand.New(rand.NewSource(273))
	never, sometimes, always := 0, 0, 0
	for range 600 {
		blow := 1 + r.Intn(4)
		s := someSystem(r, 0, blow)
		x := api.Trace{Public: list(r, s.Public, 97), Main: lists(r, s.Main, 1<<s.Rows, []uint64{1, 2, 97}[r.Intn(3)])}
		c, d := r.Uint64()%97, r.Uint64()%97
		aux := lists(r, arguments(s), 1<<s.Rows, 97)
		w := wide(t, s, x, aux, blow, c, d)
		good := uint64(0)
		for a := range uint64(97) {
			if _, e := Columns(s, w, a); e == api.OK {
				good++
			}
		}
		all, bad := wrong(s, x, aux, c, d)
		switch {
		case bad == 0:
			want(t, "for how many a there are columns", good, 97)
			always++
		case good > uint64(all-1):
			t.Errorf("of %d constraints %d are not 0, and there are columns for %d", all, bad, good)
		case good > 0:
			sometimes++
		default:
			never++
		}
	}
	if never < 50 || sometimes < 50 || always < 50 {
		t.Errorf("never %d times, sometimes %d times, always %d times", never, sometimes, always)
	}
}

// TestSoundnessOfEachPart: if one value of a trace changes, there are columns for few a only.
func TestSoundnessOfEachPart(t *testing.T) {
	r := rand.New(rand.NewSource(274))
	tried := 0
	for range 200 {
		s, x := holding(r, 0, 1+r.Intn(2))
		column, row := r.Intn(8), r.Intn(1<<s.Rows)
		x.Main[column][row] = plus(0, x.Main[column][row], 1+r.Uint64()%96)
		c, d := r.Uint64()%97, r.Uint64()%97
		aux, e := argument.Columns(s, x, c, d)
		if e != api.OK {
			continue
		}
		all, bad := wrong(s, x, aux, c, d)
		if bad == 0 {
			continue
		}
		tried++
		w := wide(t, s, x, aux, 3, c, d)
		good := 0
		for a := range uint64(97) {
			if _, e := Columns(s, w, a); e == api.OK {
				good++
			}
		}
		want(t, "whether there are few columns", good < all, true)
	}
	if tried < 30 {
		t.Errorf("tried only %d times", tried)
	}
}

// TestSoundnessIsTight: with constant rules 1, a - 1 and so on there may be as many a as there are constraints, less one.
func TestSoundnessIsTight(t *testing.T) {
	// (a - 1) (a - 2) (a - 3) is a^3 + 91 a^2 + 11 a + 91 modulo 97.
	s := constants(0, 2, slices.Repeat([]api.On{api.OnAll}, 4)...)
	for i, c := range numbers(91, 11, 91, 1) {
		s.Rules[i].Sum[0].Coef = c
	}
	w := api.Wide{Blow: 1, Main: columns(make([]uint64, 8))}
	for a := range uint64(97) {
		if a >= 1 && a <= 3 {
			wantColumns(t, s, w, a, make([]uint64, 8))
			continue
		}
		wantNoColumns(t, "constants that do not cancel", s, w, a, api.ErrNone)
	}
}

// P1

// wildVar returns any variable, often one that may stand in a rule.
func wildVar(r *rand.Rand) api.Var {
	return api.Var{
		Kind:  []api.VarKind{api.VarMain, api.VarMain, api.VarNext, api.VarFixed, api.VarPublic, api.VarNone, api.VarAux, 8, 255}[r.Intn(9)],
		Index: []int{0, 0, 0, 1, 1, 2, 63, 64, -1, math.MinInt, math.MaxInt}[r.Intn(11)],
	}
}

func wildTuple(r *rand.Rand) []api.Var {
	var out []api.Var
	for range r.Intn(4) {
		out = append(out, wildVar(r))
	}
	return out
}

// nearlyValid returns a system that is valid but perhaps for one part.
func nearlyValid(r *rand.Rand, blow int) api.System {
	s := someSystem(r, r.Intn(4), blow)
	wild := []int{0, 1, 2, 3, 13, 65, -1, 1 << 32, math.MinInt, math.MaxInt}[r.Intn(10)]
	switch r.Intn(14) {
	case 0:
		s.Field = wild
	case 1:
		s.Rows = wild
	case 2:
		s.Main = wild
	case 3:
		s.Public = wild
	case 4:
		s.Fixed = lists(r, r.Intn(3), r.Intn(5), greatest)
	case 5:
		s.Rules = append(s.Rules, api.Rule{On: api.On(r.Intn(6)), Sum: sum(term(r.Uint64()>>r.Intn(64), wildTuple(r)...))})
	case 6:
		s.Perms = append(s.Perms, api.Perm{Left: tuples(wildTuple(r)), Right: tuples(wildTuple(r))})
	case 7:
		s.Lookups = append(s.Lookups, api.Lookup{Tuple: wildTuple(r), Table: wildTuple(r), Count: wildVar(r)})
	}
	return s
}

// question is what all functions are asked.
type question struct {
	s    api.System
	w    api.Wide
	env  api.Env
	on   api.On
	x, a uint64
}

// saying is what all functions say.
type saying struct {
	segments                            int
	possible                            bool
	divisor, at, join                   uint64
	columns                             string
	noDivisor, noComposition, noColumns api.Errno
}

func (q question) answers() saying {
	out := saying{segments: Segments(q.s), possible: Possible(q.s, q.w.Blow), join: Join(q.s.Field, q.s.Rows, q.env.Main, q.x)}
	out.divisor, out.noDivisor = Divisor(q.s.Field, q.s.Rows, q.on, q.x)
	out.at, out.noComposition = At(q.s, q.env, q.x, q.a)
	l, e := Columns(q.s, q.w, q.a)
	out.columns, out.noColumns = show(l), e
	return out
}

// copied returns a question that shares no memory with another one.
func (q question) copied() question {
	q.s, q.w = copied(q.s), copiedWide(q.w)
	for _, l := range listsOf(&q.env) {
		*l = slices.Clone(*l)
	}
	return q
}

// someQuestion returns a question that mostly has an answer.
func someQuestion(r *rand.Rand) question {
	blow := 1 + r.Intn(4)
	q := question{s: nearlyValid(r, blow), on: ons[r.Intn(4)], x: r.Uint64() % 97, a: r.Uint64() % 97}
	fitting := someSystem(r, r.Intn(4), blow)
	if system.Valid(q.s) {
		fitting = q.s
	}
	q.env, q.w = someEnv(r, fitting), someWide(r, fitting, blow)
	for _, l := range []*[][]uint64{&q.w.Fixed, &q.w.Main, &q.w.Aux} {
		if r.Intn(4) > 0 { // zeros, for which there often are columns
			for i := range *l {
				(*l)[i] = make([]uint64, len((*l)[i]))
			}
		}
		if r.Intn(15) == 0 {
			*l = append(*l, nil)
		}
	}
	switch r.Intn(10) {
	case 0:
		q.w.Blow = blows[r.Intn(len(blows))]
	case 1:
		q.w.Main[0] = q.w.Main[0][1:]
	case 2:
		q.a = r.Uint64() >> r.Intn(64)
	case 3:
		q.x = r.Uint64() >> r.Intn(64)
	case 4:
		q.on = api.On(r.Intn(256))
	case 5:
		l := listsOf(&q.env)[r.Intn(7)]
		*l = (*l)[:r.Intn(len(*l)+1)]
	case 6:
		q.x = 1
	}
	return q
}

func TestAllArgumentsHaveAnAnswerThatStays(t *testing.T) {
	r := rand.New(rand.NewSource(275))
	valid, errors := 0, map[api.Errno]int{}
	for range 4000 {
		q := someQuestion(r)
		once := q.answers()
		want(t, "the second answer", q.copied().answers(), once)
		errors[once.noComposition]++
		errors[once.noColumns]++
		if !system.Valid(q.s) {
			want(t, "the answer about an invalid system", once, saying{columns: "[]", noComposition: api.ErrArg, noColumns: api.ErrArg, divisor: once.divisor, noDivisor: once.noDivisor, join: once.join})
			continue
		}
		valid++
		want(t, "whether a system is wrong", once.noComposition == api.ErrArg || once.segments == 0, false)
		want(t, "whether something comes with an error", once.noDivisor != api.OK && once.divisor != 0, false)
		want(t, "whether something comes with an error", once.noComposition != api.OK && once.at != 0, false)
		want(t, "whether something comes with an error", once.noColumns != api.OK && once.columns != "[]", false)
		want(t, "whether columns come with a blow-up that is not possible", once.noColumns != api.ErrArg && !once.possible, false)
	}
	if valid < 1000 || errors[api.OK] < 1000 || errors[api.ErrArg] < 100 || errors[api.ErrRange] < 30 || errors[api.ErrNone] < 100 || len(errors) != 4 {
		t.Errorf("%d systems are valid; errors %v", valid, errors)
	}
}

// TestLongLists: what is too long is not valid or ignored.
func TestLongLists(t *testing.T) {
	long := make([]uint64, 1<<20)
	s, w := fitting(2)
	env := api.Env{Main: long, Next: long, Fixed: long, Public: long, Aux: long, AuxNext: long, Challenge: long}
	got, e := At(s, env, 7, 1)
	want(t, "the error of At", e, api.OK)
	wanted, _ := compositionOf(s, env, 7, 1)
	want(t, "At with long lists", got, wanted)
	wantColumns(t, s, changed(w, func(w *api.Wide) { w.Challenge = long }), 1, make([]uint64, 8))
	for name, do := range map[string]func(w *api.Wide){
		"a long column":      func(w *api.Wide) { w.Main[0] = long },
		"many columns":       func(w *api.Wide) { w.Main = make([][]uint64, 1<<20) },
		"many public inputs": func(w *api.Wide) { w.Public = long },
	} {
		wantNoColumns(t, name, s, changed(w, do), 1, api.ErrArg)
	}
	for i := range long {
		long[i] = 1
	}
	want(t, "Join of a long list", Join(0, 1, long, 96), 1<<20%97)
	s.Rules = make([]api.Rule, 1<<20)
	want(t, "Segments of many rules", Segments(s), 0)
	wantNotAt(t, s, env, 7, 1, api.ErrArg)
}

// Rule 3

func TestArgumentsStayAsTheyAre(t *testing.T) {
	r := rand.New(rand.NewSource(276))
	for range 300 {
		q := someQuestion(r)
		before := q.copied()
		q.answers()
		want(t, "whether the arguments stay", show(q), show(before))
	}
}

// TestListsWithRoomStayAsTheyAre: also behind their ends.
func TestListsWithRoomStayAsTheyAre(t *testing.T) {
	s, w := fitting(2)
	env := someEnv(rand.New(rand.NewSource(277)), s)
	var rooms [][]uint64
	lists := append(listsOf(&env), &w.Fixed[0], &w.Main[0], &w.Main[1], &w.Aux[0], &w.Public, &w.Challenge, &s.Fixed[0])
	for _, l := range lists {
		room := append(slices.Clone(*l), numbers(1, 2, 3, 4, 5, 6, 7, 8)...)
		*l = room[:len(*l)]
		rooms = append(rooms, room)
	}
	room := columns(numbers(0, 0), numbers(3, 4), numbers(5, 6))
	s.Fixed = room[:1]
	question{s: s, w: w, env: env, on: api.OnAll, x: 7, a: 5}.answers()
	for _, l := range rooms {
		want(t, "what is behind the values", show(l[len(l)-8:]), "[1 2 3 4 5 6 7 8]")
	}
	want(t, "what is behind the columns", show(room), "[[0 0] [3 4] [5 6]]")
}

func TestResultsShareNoMemory(t *testing.T) {
	spoil := func(l []uint64) {
		l = l[:cap(l)]
		for i := range l {
			l[i] = 77777
		}
	}
	for field := range primes {
		s := powers(field, numbers(primes[field]-1, primes[field]-1, 0, 1, 1))
		w := api.Wide{Blow: 3, Main: columns(valuesOf(field, 4, 0, 1))}
		once, _ := Columns(s, w, 5)
		other, _ := Columns(s, w, 5)
		before := show(other)
		want(t, "how many columns there are", len(once), 3)
		for i := range once {
			rest := show(once[i+1:])
			spoil(once[i])
			want(t, "the other columns", show(once[i+1:]), rest)
		}
		want(t, "the columns of the other call", show(other), before)
		want(t, "the wide columns", show(w.Main), show(columns(valuesOf(field, 4, 0, 1))))
		again, _ := Columns(s, w, 5)
		want(t, "the columns of a later call", show(again), before)
	}
}

// The examples of the chapter

func TestExamples(t *testing.T) {
	for i, wanted := range numbers(24, 4, 4, 6) {
		wantDivisor(t, 0, 1, ons[i], 5, wanted)
	}
	wantDivisor(t, 0, 1, api.OnSteps, 96, 95)
	wantDivisor(t, 0, 1, api.OnAll, 1, 0)
	want(t, "Join", Join(0, 1, numbers(3, 4), 5), 6)
	want(t, "Segments of degree 1", Segments(ofDegree(0, 1)), 1)
	want(t, "Segments of degree 4", Segments(ofDegree(0, 4)), 3)
	wantAt(t, counter(0, 1), api.Env{Main: numbers(5), Next: numbers(6)}, 7, 1, 0)
	wantAt(t, counter(0, 1), api.Env{Main: numbers(5), Next: numbers(8)}, 7, 1, 65)
}
