package prover

import (
	"math"
	"math/rand"
	"slices"
	"testing"

	"attestor/api"
	"attestor/channel"
	"attestor/compose"
	"attestor/field"
	"attestor/lowdegree"
	"attestor/sponge"
	"attestor/system"
	"attestor/tree"
)

// P16.4

// A verifier is that of chapter 18, for one proof.
type verifier struct {
	key       api.Key
	shape     api.Shape
	low       api.LowKey
	s         api.System
	public    []uint64
	proof     api.Proof
	challenge []uint64
	a, e      uint64
	rounds    []uint64
	ground    bool
	positions []int
}

// verifierOf returns the verifier, after it has drawn what is drawn.
func verifierOf(k api.Key, public []uint64, x api.Proof) verifier {
	v := verifier{key: k, s: k.Shape, public: public, proof: x}
	v.shape, _ = Shape(k)
	v.low, _ = Low(k)
	v.s.Fixed = lists(rand.New(rand.NewSource(0)), k.Fixed, 1<<k.Shape.Rows, 1)
	c, _ := Begin(k, public)
	c = channel.Absorb(channel.AbsorbCap(c, x.Main), x.Salt)
	draw := func() uint64 {
		var out uint64
		c, out = channel.Draw(c)
		return out
	}
	if v.shape.Aux > 0 {
		v.challenge = append(v.challenge, draw())
		v.challenge = append(v.challenge, draw())
		c = channel.AbsorbCap(c, x.Aux)
	}
	v.a = draw()
	c = channel.AbsorbCap(c, x.Comp)
	v.e = draw()
	v.rounds, c, _ = lowdegree.Follow(v.low, api.LowProof{Caps: x.Rounds, Final: x.Final}, c)
	c, v.ground = channel.Grind(c, x.Nonce, k.Params.Grind)
	for range k.Params.Queries {
		var i int
		c, i = channel.Position(c, v.shape.Rows+v.shape.Blow)
		v.positions = append(v.positions, i)
	}
	return v
}

// accepts reports whether a proof fits its shape, its nonce is right, and all its openings pass.
func (v verifier) accepts() bool {
	if !fits(v.shape, v.proof) || !v.ground {
		return false
	}
	for q, i := range v.positions {
		o := v.proof.Openings[q]
		if !v.belongs(o, i) || !v.isComposed(o, i) || !v.isLow(o, i) {
			return false
		}
	}
	return true
}

// belongs reports whether the rows of an opening belong to the caps.
func (v verifier) belongs(o api.Opening, i int) bool {
	next := (i + 1<<v.shape.Blow) % (1 << (v.shape.Rows + v.shape.Blow))
	is := func(cap []api.Digest, i int, row []uint64, path []api.Digest) bool {
		return len(row) == 0 || tree.Check(v.shape.Field, cap, i, sponge.Hash(v.shape.Field, row), path)
	}
	return is(v.key.Cap, i, o.Fixed, o.FixedPath) && is(v.proof.Main, i, o.Main, o.MainPath) && is(v.proof.Aux, i, o.Aux, o.AuxPath) &&
		is(v.proof.Comp, i, o.Comp, o.CompPath) && is(v.proof.Main, next, o.MainNext, o.MainNextPath) && is(v.proof.Aux, next, o.AuxNext, o.AuxNextPath)
}

// isComposed reports whether the segments of an opening are those of its row.
func (v verifier) isComposed(o api.Opening, i int) bool {
	f := v.shape.Field
	x := field.Mul(f, field.Generator(f), field.Pow(f, field.Root(f, v.shape.Rows+v.shape.Blow), uint64(i)))
	env := api.Env{Main: o.Main, Next: o.MainNext, Fixed: o.Fixed, Public: v.public, Aux: o.Aux, AuxNext: o.AuxNext, Challenge: v.challenge}
	h, e := compose.At(v.s, env, x, v.a)
	return e == api.OK && h == compose.Join(f, v.shape.Rows, o.Comp, x)
}

// isLow reports whether the low-degree test of an opening passes.
func (v verifier) isLow(o api.Opening, i int) bool {
	f := v.shape.Field
	value, power := uint64(0), uint64(1)
	for _, x := range slices.Concat(o.Main, o.Aux, o.Fixed, o.Comp) {
		value = field.Add(f, value, field.Mul(f, power, x))
		power = field.Mul(f, power, v.e)
	}
	var open api.LowOpen
	for _, x := range o.Folds {
		open.Leaves, open.Paths = append(open.Leaves, x.Values), append(open.Paths, x.Path)
	}
	return lowdegree.Check(v.low, api.LowProof{Caps: v.proof.Rounds, Final: v.proof.Final}, v.rounds, i, value, open)
}

// fits reports whether a proof has a shape, in the sense of chapter 17.
func fits(s api.Shape, x api.Proof) bool {
	ok := true
	height := s.Rows + s.Blow
	elements := func(l []uint64, n int) {
		ok = ok && len(l) == n && !slices.ContainsFunc(l, func(x uint64) bool { return x >= primes[s.Field] })
	}
	digests := func(l []api.Digest, n int) {
		ok = ok && len(l) == n
		for _, d := range l {
			elements(d[:], 2)
		}
	}
	cap := func(l []api.Digest, columns int) { digests(l, min(columns, 1)<<min(s.Cap, height)) }
	row := func(l []uint64, path []api.Digest, columns int) {
		elements(l, columns)
		digests(path, min(columns, 1)*(height-min(s.Cap, height)))
	}
	cap(x.Main, 1)
	cap(x.Aux, s.Aux)
	cap(x.Comp, 1)
	elements([]uint64{x.Salt, x.Nonce}, 2)
	elements(x.Final, 1<<(s.Rows%3))
	ok = ok && len(x.Rounds) == s.Rows/3 && len(x.Openings) == s.Queries
	for j, l := range x.Rounds {
		digests(l, 1<<min(s.Cap, height-3*(j+1)))
	}
	for _, o := range x.Openings {
		row(o.Fixed, o.FixedPath, s.Fixed)
		row(o.Main, o.MainPath, s.Main)
		row(o.Aux, o.AuxPath, s.Aux)
		row(o.Comp, o.CompPath, s.Comp)
		row(o.MainNext, o.MainNextPath, s.Main)
		row(o.AuxNext, o.AuxNextPath, s.Aux)
		ok = ok && len(o.Folds) == s.Rows/3
		for j, x := range o.Folds {
			elements(x.Values[:], 8)
			h := height - 3*(j+1)
			digests(x.Path, h-min(s.Cap, h))
		}
	}
	return ok
}

// wantAccepted reports a system and a trace without a proof, and a proof that is not accepted.
func wantAccepted(t *testing.T, s api.System, p api.Params, x api.Trace) api.Proof {
	t.Helper()
	k, e := NewKey(s, p)
	want(t, "the error of NewKey", e, api.OK)
	want(t, "whether the key is valid", ValidKey(k), true)
	proof, e := Prove(s, p, x)
	want(t, "the error of Prove", e, api.OK)
	shape, _ := Shape(k)
	if !fits(shape, proof) {
		t.Errorf("the proof with %v does not fit its shape %v", p, shape)
	}
	if !verifierOf(k, x.Public, proof).accepts() {
		t.Errorf("the proof with %v of a system with %d rows is not accepted", p, s.Rows)
	}
	return proof
}

func TestProofsAreAccepted(t *testing.T) {
	r := rand.New(rand.NewSource(300))
	for field := range primes {
		accepted := 0
		for range 150 {
			s, p, x := someProvable(r, field, 9)
			p.Queries = 1 + r.Intn(64)
			if _, e := Prove(s, p, x); e == api.ErrFull {
				continue
			}
			wantAccepted(t, s, p, x)
			accepted++
		}
		if accepted < 90 {
			t.Errorf("in the field %d only %d proofs are accepted", field, accepted)
		}
	}
}

// TestProofsAreAcceptedForAllSizes: for all numbers of rows and blow-ups, with one part of each kind.
func TestProofsAreAcceptedForAllSizes(t *testing.T) {
	r := rand.New(rand.NewSource(301))
	for field := range primes {
		for rows := 1; rows <= min(10, twos[field]); rows++ {
			for blow := 1; blow <= 5; blow++ {
				for part := range 3 {
					s, x := holding(r, field, rows, 1)
					switch part {
					case 0:
						s.Perms, s.Lookups = nil, nil
					case 1:
						s.Lookups = nil
					}
					if !isPossible(s, blow) || rows+blow > 11 {
						continue
					}
					p := api.Params{Blow: blow, Cap: r.Intn(9), Queries: 3}
					if _, e := Prove(s, p, x); e == api.ErrFull && field < 3 {
						continue
					}
					wantAccepted(t, s, p, x)
				}
			}
		}
	}
}

// TestOtherProofsAreNotAccepted: in a great field, each change of a number is seen, so that the acceptance above says something.
func TestOtherProofsAreNotAccepted(t *testing.T) {
	r := rand.New(rand.NewSource(302))
	s, x := holding(r, 3, 3, 3)
	p := api.Params{Blow: 3, Cap: 1, Queries: 2, Grind: 1}
	proof := wantAccepted(t, s, p, x)
	k, _ := NewKey(s, p)
	refused := func(name string, do func(x *api.Proof)) {
		other := copyOf(proof)
		do(&other)
		want(t, "whether a proof is accepted with "+name, verifierOf(k, x.Public, other).accepts(), false)
	}
	refused("another main cap", func(x *api.Proof) { x.Main[0][0]++ })
	refused("another argument cap", func(x *api.Proof) { x.Aux[1][1]++ })
	refused("another composition's cap", func(x *api.Proof) { x.Comp[0][1]++ })
	refused("another salt", func(x *api.Proof) { x.Salt++ })
	refused("another round's cap", func(x *api.Proof) { x.Rounds[0][1][0]++ })
	refused("another coefficient", func(x *api.Proof) { x.Final[0]++ })
	refused("another nonce", func(x *api.Proof) { x.Nonce++ })
	refused("an opening less", func(x *api.Proof) { x.Openings = x.Openings[1:] })
	refused("another fixed value", func(x *api.Proof) { x.Openings[0].Fixed[0]++ })
	refused("another value of the next row", func(x *api.Proof) { x.Openings[1].MainNext[7]++ })
	refused("another value of a leaf", func(x *api.Proof) { x.Openings[1].Folds[0].Values[7]++ })
	refused("another path", func(x *api.Proof) { x.Openings[0].AuxNextPath[0][0]++ })
	want(t, "whether a proof is accepted with other inputs", verifierOf(k, numbers((x.Public[0]+1)%primes[3]), proof).accepts(), false)
	k.Params.Grind = 0
	want(t, "whether a proof is accepted with another key", verifierOf(k, x.Public, proof).accepts(), false)
}

// TestKeysDependOnTheSystemAlone: not on how its empty lists are given, and on all its words and fixed columns.
func TestKeysDependOnTheSystemAlone(t *testing.T) {
	r := rand.New(rand.NewSource(303))
	for field, prime := range primes {
		for range 40 {
			s, p, _ := someProvable(r, field, 6)
			k, _ := NewKey(s, p)
			again, _ := NewKey(copyOf(s), p)
			want(t, "the key of the same system", again, k)
			if len(s.Fixed) > 0 {
				other := copyOf(s)
				column := other.Fixed[r.Intn(len(s.Fixed))]
				row := r.Intn(len(column))
				column[row] = (column[row] + 1) % prime
				again, _ = NewKey(other, p)
				want(t, "the shape of the key with another fixed value", again.Shape, k.Shape)
				want(t, "whether the cap is the same in a great field", field == 3 && same(again.Cap, k.Cap), false)
			}
		}
		s := api.System{Field: field, Rows: 1, Main: 1, Rules: []api.Rule{{On: api.OnAll, Sum: sum(term(1), term(prime-1))}}}
		nils, _ := NewKey(s, api.Params{Blow: 1, Queries: 1})
		s.Fixed, s.Perms, s.Lookups, s.Rules[0].Sum[0].Vars = columns(), []api.Perm{}, []api.Lookup{}, tuple()
		empties, _ := NewKey(s, api.Params{Blow: 1, Queries: 1})
		want(t, "the key of a system with empty lists", empties, nils)
		want(t, "the words of a system with empty lists", system.Words(empties.Shape), system.Words(nils.Shape))
	}
}

// TestKeysDoNotDependOnTraces: proofs of several traces are accepted with one key, and only with the inputs of their own.
func TestKeysDoNotDependOnTraces(t *testing.T) {
	s := counter(3, 4)
	s.Public = 1
	s.Rules = append(s.Rules, api.Rule{On: api.OnFirst, Sum: sum(term(1, m(0)), term(primes[3]-1, p(0)))})
	k, _ := NewKey(s, api.Params{Blow: 2, Cap: 2, Queries: 12})
	for first := range uint64(8) {
		x := counted(3, 4, first)
		x.Public = numbers(first)
		proof := wantAccepted(t, s, k.Params, x)
		for other := range uint64(8) {
			want(t, "whether a proof is accepted", verifierOf(k, numbers(other), proof).accepts(), other == first)
		}
	}
}

// P1

// question is what all functions are asked.
type question struct {
	S      api.System
	P      api.Params
	X      api.Trace
	K      api.Key
	Public []uint64
}

// saying is what all functions say.
type saying struct {
	Possible, Valid                                bool
	Key                                            api.Key
	Shape                                          api.Shape
	Begin                                          api.Channel
	Low                                            api.LowKey
	Proof                                          api.Proof
	NoKey, NoShape, NoBeginning, NoLowKey, NoProof api.Errno
}

func (q question) answers() saying {
	out := saying{Possible: Possible(q.S, q.P), Valid: ValidKey(q.K)}
	out.Key, out.NoKey = NewKey(q.S, q.P)
	out.Shape, out.NoShape = Shape(q.K)
	out.Begin, out.NoBeginning = Begin(q.K, q.Public)
	out.Low, out.NoLowKey = Low(q.K)
	out.Proof, out.NoProof = Prove(q.S, q.P, q.X)
	return out
}

// wildVar returns any variable, often one that may stand in a rule.
func wildVar(r *rand.Rand) api.Var {
	return api.Var{
		Kind:  []api.VarKind{api.VarMain, api.VarMain, api.VarNext, api.VarFixed, api.VarPublic, api.VarNone, api.VarAux, 8, 255}[r.Intn(9)],
		Index: []int{0, 0, 0, 1, 1, 2, 7, 64, -1, math.MinInt, math.MaxInt}[r.Intn(11)],
	}
}

func wildTuple(r *rand.Rand) []api.Var {
	var out []api.Var
	for range r.Intn(4) {
		out = append(out, wildVar(r))
	}
	return out
}

// changeSystem changes a part of a system, perhaps.
func changeSystem(r *rand.Rand, s *api.System) {
	wild := []int{0, 1, 2, 3, 13, 14, 65, -1, 1 << 32, math.MinInt, math.MaxInt}[r.Intn(11)]
	switch r.Intn(16) {
	case 0:
		s.Field = wild
	case 1:
		s.Rows = wild
	case 2:
		s.Main = wild
	case 3:
		s.Public = wild
	case 4:
		s.Fixed = lists(r, r.Intn(3), r.Intn(5), greatest)
	case 5:
		s.Rules = append(s.Rules, api.Rule{On: api.On(r.Intn(6)), Sum: sum(term(r.Uint64()>>r.Intn(64), wildTuple(r)...))})
	case 6:
		s.Perms = append(s.Perms, api.Perm{Left: tuples(wildTuple(r)), Right: tuples(wildTuple(r))})
	case 7:
		s.Lookups = append(s.Lookups, api.Lookup{Tuple: wildTuple(r), Table: wildTuple(r), Count: wildVar(r)})
	}
}

// changeParams changes a number of parameters, perhaps.
func changeParams(r *rand.Rand, p *api.Params) {
	numbers := []*int{&p.Blow, &p.Cap, &p.Queries}
	switch i := r.Intn(12); i {
	case 0, 1, 2:
		*numbers[i] = blows[r.Intn(len(blows))]
	case 3:
		p.Grind = wrongNumbers[r.Intn(len(wrongNumbers))]
	case 4, 5, 6:
		p.Grind = 9 // in small fields there often is no nonce
	}
}

// someQuestion returns a question that mostly has an answer.
func someQuestion(r *rand.Rand) question {
	var q question
	q.S, q.P, q.X = someProvable(r, r.Intn(4), 5)
	q.K, _ = NewKey(q.S, q.P)
	q.Public = slices.Clone(q.X.Public)
	changeSystem(r, &q.S)
	changeParams(r, &q.P)
	switch r.Intn(12) {
	case 0:
		changeSystem(r, &q.K.Shape)
	case 1:
		changeParams(r, &q.K.Params)
	case 2:
		q.K.Fixed = wrongNumbers[r.Intn(len(wrongNumbers))]
	case 3:
		q.K.Cap = append(q.K.Cap, api.Digest{})
	case 4:
		q.Public = randoms(r, r.Intn(3), greatest)
	case 5:
		q.X.Public = append(q.X.Public, 1)
	case 6:
		q.X.Main[r.Intn(8)][0] = r.Uint64() >> r.Intn(64)
	case 7:
		q.X.Main = q.X.Main[:r.Intn(8)]
	case 8:
		q.K.Shape.Fixed = lists(r, r.Intn(3), r.Intn(3), 2)
	}
	return q
}

func TestAllArgumentsHaveAnAnswerThatStays(t *testing.T) {
	r := rand.New(rand.NewSource(304))
	errors, valid := map[api.Errno]int{}, map[bool]int{}
	for range 1500 {
		q := someQuestion(r)
		once := q.answers()
		want(t, "the second answer", copyOf(q).answers(), once)
		errors[once.NoProof]++
		valid[once.Valid]++
		want(t, "whether there is a key", once.NoKey == api.OK, once.Possible)
		want(t, "whether the error of Shape is right", once.NoShape == api.OK, once.Valid)
		want(t, "whether the error of Low is right", once.NoLowKey == api.OK, once.Valid)
		want(t, "whether there is a beginning of no key", once.NoBeginning == api.OK && !once.Valid, false)
		want(t, "whether there is a proof without a key", once.NoProof != api.ErrArg && !once.Possible, false)
		want(t, "whether something comes with an error", once.NoKey != api.OK && !same(once.Key, api.Key{}), false)
		want(t, "whether something comes with an error", once.NoShape != api.OK && once.Shape != api.Shape{}, false)
		want(t, "whether something comes with an error", once.NoBeginning != api.OK && once.Begin != api.Channel{}, false)
		want(t, "whether something comes with an error", once.NoLowKey != api.OK && once.Low != api.LowKey{}, false)
		want(t, "whether something comes with an error", once.NoProof != api.OK && !same(once.Proof, api.Proof{}), false)
	}
	if errors[api.OK] < 200 || errors[api.ErrArg] < 200 || errors[api.ErrNone] < 10 || errors[api.ErrFull] < 5 || len(errors) != 4 || valid[true] < 200 || valid[false] < 100 {
		t.Errorf("errors %v, valid %v", errors, valid)
	}
}

// TestNothing: without arguments there is no answer.
func TestNothing(t *testing.T) {
	want(t, "the answer", question{}.answers(), saying{NoKey: api.ErrArg, NoShape: api.ErrArg, NoBeginning: api.ErrArg, NoLowKey: api.ErrArg, NoProof: api.ErrArg})
}

// TestLongLists: what is too long is not valid.
func TestLongLists(t *testing.T) {
	s, p, x := counter(3, 2), api.Params{Blow: 1, Queries: 1}, counted(3, 2, 1)
	long := make([]uint64, 1<<20)
	many := make([][]uint64, 1<<20)
	k, _ := NewKey(s, p)
	wantNoProof(t, "many columns", s, p, trace(many...), api.ErrArg)
	wantNoProof(t, "a long column", s, p, trace(long), api.ErrArg)
	wantNoProof(t, "many inputs", s, p, api.Trace{Public: long, Main: x.Main}, api.ErrArg)
	s.Fixed = many
	wantNoKey(t, "many fixed columns", s, p)
	s.Fixed = columns(long)
	wantNoKey(t, "a long fixed column", s, p)
	s.Fixed, s.Rules = nil, make([]api.Rule, 1<<20)
	wantNoKey(t, "many rules", s, p)
	k.Cap = make([]api.Digest, 1<<20)
	wantInvalid(t, "a long cap", k)
	k.Cap, k.Shape = nil, s
	wantInvalid(t, "many rules", k)
}

// Rule 3

func TestArgumentsAndResultsAreApart(t *testing.T) {
	r := rand.New(rand.NewSource(305))
	for field := range primes {
		for range 12 {
			s, p, x := someProvable(r, field, 6)
			s, x = copyOf(s), copyOf(x)
			k, _ := NewKey(s, p)
			public := slices.Clone(x.Public)
			wantApart(t, "all functions", []any{s, x, k, public}, func() []any {
				once, again := question{s, p, x, k, public}.answers(), question{s, p, x, k, public}.answers()
				return []any{once.Key, once.Proof, again.Key, again.Proof}
			})
		}
	}
}

// TestListsWithRoomStayAsTheyAre: also behind their ends.
func TestListsWithRoomStayAsTheyAre(t *testing.T) {
	r := rand.New(rand.NewSource(306))
	s, x := holding(r, 2, 2, 1)
	var rooms [][]uint64
	for _, l := range slices.Concat(s.Fixed, x.Main, columns(x.Public)) {
		rooms = append(rooms, slices.Concat(l, numbers(1, 2, 3, 4, 5, 6, 7, 8)))
	}
	for i, room := range rooms {
		switch {
		case i < len(s.Fixed):
			s.Fixed[i] = room[:4]
		case i < len(rooms)-1:
			x.Main[i-len(s.Fixed)] = room[:4]
		default:
			x.Public = room[:1]
		}
	}
	wantAccepted(t, s, api.Params{Blow: 3, Queries: 2}, x)
	for _, room := range rooms {
		want(t, "what is behind the values", room[len(room)-8:], numbers(1, 2, 3, 4, 5, 6, 7, 8))
	}
}

// The examples of the chapter

func TestExamples(t *testing.T) {
	s, p := counter(0, 2), api.Params{Blow: 1, Cap: 1, Queries: 2}
	k, e := NewKey(s, p)
	want(t, "the error of NewKey", e, api.OK)
	want(t, "Fixed", k.Fixed, 0)
	want(t, "the number of digests", len(k.Cap), 0)
	shape, e := Shape(k)
	want(t, "the error of Shape", e, api.OK)
	want(t, "Shape", shape, api.Shape{Field: 0, Rows: 2, Blow: 1, Cap: 1, Queries: 2, Fixed: 0, Main: 1, Aux: 0, Comp: 1})
	proof, e := Prove(s, p, trace(numbers(7, 8, 9, 10)))
	want(t, "the error of Prove", e, api.OK)
	want(t, "the numbers of a proof", []int{len(proof.Main), len(proof.Aux), len(proof.Comp), len(proof.Rounds), len(proof.Final), len(proof.Openings)}, []int{2, 0, 2, 0, 4, 2})
	wantNoProof(t, "7 8 9 11", s, p, trace(numbers(7, 8, 9, 11)), api.ErrNone)
	wantNoProof(t, "7 8 9", s, p, trace(numbers(7, 8, 9)), api.ErrArg)
	wantNoKey(t, "the counter with Blow 0", s, api.Params{Cap: 1, Queries: 2})
}
