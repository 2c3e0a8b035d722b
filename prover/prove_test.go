package prover

import (
	"math/rand"
	"slices"
	"testing"

	"attestor/api"
	"attestor/system"
)

// P16.3

// TestProofs: of systems of all kinds, each proof is the one that is made without the program.
func TestProofs(t *testing.T) {
	r := rand.New(rand.NewSource(290))
	for field := range primes {
		salted, plain, rounds, nonces, full, segments := 0, 0, 0, 0, 0, map[int]int{}
		for range 250 {
			s, p, x := someProvable(r, field, 7)
			wanted, e := proofOf(s, p, x)
			if e != api.OK {
				wantNoProof(t, "a system for which there is no salt or nonce", s, p, x, e)
				full++
				continue
			}
			wantProof(t, s, p, x, wanted.out)
			if len(wanted.out.Aux) == 0 {
				plain++
			}
			salted += min(1, int(wanted.out.Salt))
			rounds += len(wanted.rounds)
			nonces += min(1, int(wanted.out.Nonce))
			segments[len(wanted.comp.columns)]++
		}
		if plain < 20 || rounds < 20 || nonces < 20 || len(segments) < 4 || full > 100 || salted < []int{10, 3, 0, 0}[field] {
			t.Errorf("in the field %d: %d salts, %d without arguments, %d rounds, %d nonces, %d errors, segments %v", field, salted, plain, rounds, nonces, full, segments)
		}
	}
}

// TestProofsOfCounters: with two rounds, and with all cap levels.
func TestProofsOfCounters(t *testing.T) {
	for field := range primes {
		for rows := 1; rows <= 7; rows++ {
			for cap := range 9 {
				s := counter(field, rows)
				if rows > twos[field] || !isPossible(s, 1) {
					continue
				}
				p, x := api.Params{Blow: 1, Cap: cap, Queries: 1 + cap}, counted(field, rows, 90)
				wanted, e := proofOf(s, p, x)
				want(t, "the error without grinding", e, api.OK)
				wantProof(t, s, p, x, wanted.out)
			}
		}
	}
}

// TestTheProofOfTheCounter: its parts, one by one.
func TestTheProofOfTheCounter(t *testing.T) {
	s, p := counter(0, 2), api.Params{Blow: 1, Cap: 1, Queries: 2}
	got, e := Prove(s, p, counted(0, 2, 7))
	want(t, "the error of Prove", e, api.OK)
	// The column's wide values, and the composition, which is 0: the rule is 0 in the first three rows, so that it is a multiple of the divisor.
	wide := wideOf(0, 1, columns(numbers(7, 8, 9, 10)))
	main := committed(0, wide, 1)
	want(t, "Main", got.Main, main.cap())
	k, _ := NewKey(s, p)
	c, _ := Begin(k, nil)
	c, a := drawOf(absorbOf(absorbCapOf(c, main.cap()), 0)) // the salt 0
	comp := committed(0, segmentsOf(s, api.Wide{Blow: 1, Main: wide}, a), 1)
	want(t, "Comp", got.Comp, comp.cap())
	c, e1 := drawOf(absorbCapOf(c, comp.cap()))
	var word []uint64
	for i, x := range wide[0] {
		word = append(word, (x+e1*comp.columns[0][i])%97)
	}
	final := through(0, 5, word)
	want(t, "Final", got.Final, final[:4])
	want(t, "the further coefficients", final[4:], numbers(0, 0, 0, 0))
	c, _ = drawOf(absorbOf(absorbOf(c, final[:4]...), 0)) // the nonce 0
	for q := range 2 {
		var x uint64
		c, x = drawOf(c)
		i := int(x % 8)
		wanted := api.Opening{Main: numbers(wide[0][i]), MainNext: numbers(wide[0][(i+2)%8]), Comp: comp.row(i),
			MainPath: main.path(i), MainNextPath: main.path((i + 2) % 8), CompPath: comp.path(i)}
		want(t, "an opening", got.Openings[q], wanted)
	}
}

// TestHoldingOrNot: a proof is made just if the system holds.
func TestHoldingOrNot(t *testing.T) {
	r := rand.New(rand.NewSource(291))
	for field, prime := range primes {
		seen := map[bool]int{}
		for range 200 {
			s, p, x := someProvable(r, field, 6)
			p.Grind = 0
			column, row := r.Intn(8), r.Intn(1<<s.Rows)
			x.Main[column][row] = (x.Main[column][row] + 1 + r.Uint64()%(prime-1)) % prime
			holds, _ := system.Holds(s, x)
			seen[holds]++
			if !holds {
				wantNoProof(t, "a trace of which the system does not hold", s, p, x, api.ErrNone)
				continue
			}
			wanted, e := proofOf(s, p, x)
			if e == api.OK {
				wantProof(t, s, p, x, wanted.out)
			}
		}
		if seen[true] < 20 || seen[false] < 50 {
			t.Errorf("in the field %d only one of the results is seen: %v", field, seen)
		}
	}
}

// TestSystemsThatDoNotHold: for a rule, a permutation and a lookup.
func TestSystemsThatDoNotHold(t *testing.T) {
	for field, prime := range primes {
		s := counter(field, 2)
		p := api.Params{Blow: 1, Cap: 1, Queries: 2}
		wantNoProof(t, "a counter that stands still", s, p, trace(numbers(7, 8, 8, 9)), api.ErrNone)
		wantNoProof(t, "a counter that ends wrong", s, p, trace(numbers(7, 8, 9, 11)), api.ErrNone)
		s.Rules[0].On = api.OnAll
		wantNoProof(t, "a counter that goes on from its end", s, p, counted(field, 2, 7), api.ErrNone)
		s = api.System{Field: field, Rows: 1, Main: 2, Perms: []api.Perm{{Left: tuples(tuple(m(0))), Right: tuples(tuple(m(1)))}}}
		p.Blow = 2
		wantNoProof(t, "columns that are no permutations", s, p, trace(numbers(7, 8), numbers(7, 7)), api.ErrNone)
		s.Perms, s.Fixed = nil, columns(numbers(3, 4))
		s.Lookups = []api.Lookup{{Tuple: tuple(m(0)), Table: tuple(f(0)), Count: m(1)}}
		p.Blow = 3
		wantNoProof(t, "a value that is not in the table", s, p, trace(numbers(3, 5), numbers(1, 1)), api.ErrNone)
		wantNoProof(t, "values that are counted wrong", s, p, trace(numbers(3, 3), numbers(1, 1)), api.ErrNone)
		_, e := Prove(s, p, trace(numbers(3, 3), numbers(2, 0)))
		want(t, "the error for values that are counted", e, api.OK)
		wantNoProof(t, "a number that is no element", s, p, trace(numbers(3, 3), numbers(2, prime)), api.ErrArg)
	}
}

func TestTracesThatDoNotFit(t *testing.T) {
	for field, prime := range primes {
		s, p := counter(field, 2), api.Params{Blow: 1, Cap: 1, Queries: 2}
		s.Public = 1
		good := counted(field, 2, 7)
		good.Public = numbers(prime - 1)
		_, e := Prove(s, p, good)
		want(t, "the error for a trace that fits", e, api.OK)
		for name, do := range map[string]func(x *api.Trace){
			"nothing":                          func(x *api.Trace) { *x = api.Trace{} },
			"no public input":                  func(x *api.Trace) { x.Public = nil },
			"two public inputs":                func(x *api.Trace) { x.Public = numbers(0, 0) },
			"a public input that is no number": func(x *api.Trace) { x.Public = numbers(prime) },
			"no column":                        func(x *api.Trace) { x.Main = nil },
			"two columns":                      func(x *api.Trace) { x.Main = append(x.Main, x.Main[0]) },
			"a short column":                   func(x *api.Trace) { x.Main[0] = x.Main[0][:3] },
			"an empty column":                  func(x *api.Trace) { x.Main[0] = nil },
			"a long column":                    func(x *api.Trace) { x.Main[0] = append(x.Main[0], 11) },
			"P":                                func(x *api.Trace) { x.Main[0][3] = prime },
			"a number that is right modulo P":  func(x *api.Trace) { x.Main[0][3] += prime },
			"a great number":                   func(x *api.Trace) { x.Main[0][0] = greatest },
		} {
			x := copyOf(good)
			do(&x)
			wantNoProof(t, name, s, p, x, api.ErrArg)
		}
	}
}

// TestErrorsInTheirOrder: what is not possible comes before what does not hold.
func TestErrorsInTheirOrder(t *testing.T) {
	for field := range primes {
		s, wrong := counter(field, 2), trace(numbers(7, 7, 7, 7))
		wantNoProof(t, "a system that does not hold", s, api.Params{Blow: 1, Queries: 1}, wrong, api.ErrNone)
		for _, p := range []api.Params{{}, {Blow: 0, Queries: 1}, {Blow: 6, Queries: 1}, {Blow: 1}, {Blow: 1, Queries: 65}, {Blow: 1, Cap: -1, Queries: 1}, {Blow: 1, Cap: 9, Queries: 1}, {Blow: 1, Queries: 1, Grind: -1}, {Blow: 1, Queries: 1, Grind: 21}} {
			wantNoProof(t, "parameters that are not possible", s, p, counted(field, 2, 7), api.ErrArg)
			wantNoProof(t, "parameters that are not possible, and a system that does not hold", s, p, wrong, api.ErrArg)
			wantNoProof(t, "parameters that are not possible, and a trace that does not fit", s, p, api.Trace{}, api.ErrArg)
		}
		for _, s := range invalid(field) {
			wantNoProof(t, "an invalid system", s, api.Params{Blow: 3, Queries: 1}, wrong, api.ErrArg)
		}
	}
}

// everything returns a system of the field 1 that holds of a trace, and whose tuples have all values but 256, which is in the last fixed column. A weight of a value v alone is 0 if c is -v.
func everything() (api.System, api.Trace) {
	s := api.System{Field: 1, Rows: 4, Main: 1}
	for i := range uint64(17) {
		var column []uint64
		for j := range uint64(16) {
			column = append(column, min(16*i+j, 256))
		}
		s.Fixed = append(s.Fixed, column)
	}
	s.Perms = make([]api.Perm, 4)
	for i := range 12 {
		s.Perms[i/3].Left = append(s.Perms[i/3].Left, tuple(f(i)))
	}
	for i := range s.Perms {
		s.Perms[i].Right = s.Perms[i].Left
	}
	for i := 12; i < 16; i++ {
		s.Lookups = append(s.Lookups, api.Lookup{Tuple: tuple(f(i)), Table: tuple(f(i)), Count: m(0)})
	}
	return s, trace(slices.Repeat(numbers(1), 16))
}

// TestNoSalt: all salts fail if there is a weight 0 for all challenges.
func TestNoSalt(t *testing.T) {
	s, x := everything()
	s.Lookups = append(s.Lookups, api.Lookup{Tuple: tuple(f(16)), Table: tuple(f(16)), Count: m(0)})
	p := api.Params{Blow: 3, Queries: 1}
	want(t, "whether the parameters are possible", Possible(s, p), true)
	for other := range uint64(20) { // the challenges change, but not that a weight is 0
		s.Fixed[16][1] = other
		holds, _ := system.Holds(s, x)
		want(t, "whether the system holds", holds, true)
		_, e := proofOf(s, p, x)
		want(t, "the error without the program", e, api.ErrFull)
		wantNoProof(t, "a system that has all values", s, p, x, api.ErrFull)
	}
	p.Queries = 0
	wantNoProof(t, "a system that has all values, and parameters that are not possible", s, p, x, api.ErrArg)
	p.Queries = 1
	x.Main[0][5] = 2
	wantNoProof(t, "a system that has all values, and does not hold", s, p, x, api.ErrNone)
}

// TestTheLastSalts: with a value less there is one challenge c that is good. It is drawn for some salt, which may be any, or for none.
func TestTheLastSalts(t *testing.T) {
	s, x := everything()
	p := api.Params{Blow: 3, Queries: 1}
	least, most, none := uint64(257), uint64(0), 0
	for other := range uint64(40) {
		s.Fixed[16][0] = other // no tuple has this column
		wanted, e := proofOf(s, p, x)
		if e != api.OK {
			none++
			wantNoProof(t, "a system for which there is no salt", s, p, x, api.ErrFull)
			continue
		}
		want(t, "the challenge", wanted.w.Challenge[0], 1)
		wantProof(t, s, p, x, wanted.out)
		least, most = min(least, wanted.out.Salt), max(most, wanted.out.Salt)
	}
	s.Fixed[16][0], s.Fixed[16][1] = 181, 12
	wanted, e := proofOf(s, p, x)
	want(t, "the error without the program", e, api.OK)
	want(t, "the salt, the last of all", wanted.out.Salt, 256)
	wantProof(t, s, p, x, wanted.out)
	if least > 50 || most < 200 || none < 5 {
		t.Errorf("the salts are from %d to %d, and %d times there is none", least, most, none)
	}
}

// TestNoNonce: in small fields there often is none, and then there is no proof.
func TestNoNonce(t *testing.T) {
	for field := range primes[:3] {
		seen := map[api.Errno]int{}
		for _, grind := range []int{0, 1, 3, 5, 6, 7, 12, 13, 20} {
			for first := range uint64(12) {
				s, x := counter(field, 2), counted(field, 2, first)
				p := api.Params{Blow: 1, Cap: 1, Queries: 2, Grind: grind}
				wanted, e := proofOf(s, p, x)
				seen[e]++
				if e != api.OK {
					wantNoProof(t, "a system for which there is no nonce", s, p, x, api.ErrFull)
					want(t, "whether there is always a nonce", grind == 0, false)
					continue
				}
				wantProof(t, s, p, x, wanted.out)
				want(t, "the nonce without grinding", grind == 0 && wanted.out.Nonce != 0, false)
			}
		}
		if seen[api.OK] < 20 || seen[api.ErrFull] < 5 {
			t.Errorf("in the field %d only one of the errors is seen: %v", field, seen)
		}
	}
}

// TestNoncesUpToTheLast: in the field 3, 2^20 nonces are tried, far fewer than P.
func TestNoncesUpToTheLast(t *testing.T) {
	s, p := counter(3, 1), api.Params{Blow: 1, Queries: 1, Grind: 20}
	wanted, e := proofOf(s, p, counted(3, 1, 31))
	want(t, "the error", e, api.OK)
	want(t, "the nonce, one of the last ones", wanted.out.Nonce, 989323)
	wantProof(t, s, p, counted(3, 1, 31), wanted.out)
	_, e = proofOf(s, p, counted(3, 1, 4))
	want(t, "the error", e, api.ErrFull)
	wantNoProof(t, "a system for which there is no nonce", s, p, counted(3, 1, 4), api.ErrFull)
}

// TestTheSaltIsTheFirstOne: in the field 0 the first salts often fail.
func TestTheSaltIsTheFirstOne(t *testing.T) {
	salts := map[uint64]int{}
	for first := range uint64(97) {
		s := api.System{Rows: 3, Main: 1, Perms: slices.Repeat([]api.Perm{{Left: tuples(tuple(m(0))), Right: tuples(tuple(m(0)))}}, 3)}
		x, p := counted(0, 3, first), api.Params{Blow: 2, Queries: 1}
		got, e := Prove(s, p, x)
		want(t, "the error of Prove", e, api.OK)
		k, _ := NewKey(s, p)
		c, _ := Begin(k, nil)
		c = absorbCapOf(c, got.Main)
		for salt := uint64(0); salt <= got.Salt; salt++ {
			after, c := drawOf(absorbOf(c, salt))
			_, d := drawOf(after)
			_, ok := argumentsOf(s, x, c, d)
			want(t, "whether a salt is good", ok, salt == got.Salt)
		}
		salts[got.Salt]++
	}
	if len(salts) < 3 {
		t.Errorf("the salts are %v", salts)
	}
}

// TestTheGreatestProofs: 2^18 wide rows, or as many queries and columns as can be.
func TestTheGreatestProofs(t *testing.T) {
	s := counter(3, 13)
	p := api.Params{Blow: 5, Cap: 8, Queries: 2, Grind: 4}
	wantAccepted(t, s, p, counted(3, 13, 12345))
	s = counter(3, 3)
	s.Main = 64
	x := trace(slices.Repeat(counted(3, 3, 7).Main, 64)...)
	s.Fixed = slices.Repeat(x.Main[:1], 64)
	s.Perms = slices.Repeat([]api.Perm{{Left: slices.Repeat(tuples(tuple(m(63), f(63), f(0), m(0))), 4), Right: slices.Repeat(tuples(tuple(m(0), f(0), f(63), m(63))), 4)}}, 4)
	ones := slices.Repeat(numbers(1), 8)
	x.Main[1] = ones
	s.Lookups = slices.Repeat([]api.Lookup{{Tuple: tuple(m(63)), Table: tuple(f(63)), Count: m(1)}}, 8)
	wantAccepted(t, s, api.Params{Blow: 5, Cap: 8, Queries: 64, Grind: 8}, x)
	wantAccepted(t, s, api.Params{Blow: 4, Queries: 64}, x)
}
