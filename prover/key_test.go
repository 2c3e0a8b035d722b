package prover

import (
	"math"
	"math/rand"
	"slices"
	"testing"

	"attestor/api"
)

// P16.1

// wrongNumbers are never the number of anything.
var wrongNumbers = []int{math.MinInt, math.MinInt + 1, math.MinInt32, -1 << 32, -64, -5, -2, -1, 65, 97, 1 << 20, 1 << 32, math.MaxInt32, math.MaxInt - 1, math.MaxInt}

// blows are numbers that may be tried as a blow-up.
var blows = slices.Concat(wrongNumbers, []int{0, 1, 2, 3, 4, 5, 6, 7, 8, 12, 22, 62, 63, 64})

// TestPossibleBlowUps: in all fields, with all numbers of rows and all degrees.
func TestPossibleBlowUps(t *testing.T) {
	for field := range primes {
		for rows := 1; rows <= min(13, twos[field]); rows++ {
			for degree := range 9 {
				s := ofDegree(field, rows, degree)
				for _, b := range blows {
					if got, wanted := Possible(s, api.Params{Blow: b, Queries: 1}), isPossible(s, b); got != wanted {
						t.Errorf("Possible in the field %d with %d rows, degree %d, blow-up %d is %v", field, rows, degree, b, got)
					}
				}
			}
		}
	}
}

// TestPossibleNumbers: of the cap, the queries and the bits of grinding.
func TestPossibleNumbers(t *testing.T) {
	for field := range primes {
		s := counter(field, 3)
		for i := -2; i < 80; i++ {
			want(t, "Possible with a cap", Possible(s, api.Params{Blow: 1, Cap: i, Queries: 1}), i >= 0 && i <= 8)
			want(t, "Possible with queries", Possible(s, api.Params{Blow: 1, Queries: i}), i >= 1 && i <= 64)
			want(t, "Possible with grinding", Possible(s, api.Params{Blow: 1, Queries: 1, Grind: i}), i >= 0 && i <= 20)
		}
		want(t, "Possible with the greatest numbers", Possible(s, api.Params{Blow: 1, Cap: 8, Queries: 64, Grind: 20}), true)
		for _, x := range wrongNumbers {
			for name, p := range map[string]api.Params{
				"a wrong cap":       {Blow: 1, Cap: x, Queries: 1},
				"wrong queries":     {Blow: 1, Queries: x},
				"wrong grinding":    {Blow: 1, Queries: 1, Grind: x},
				"a wrong blow-up":   {Blow: x, Queries: 1},
				"all numbers wrong": {Blow: x, Cap: x, Queries: x, Grind: x},
			} {
				wantNoKey(t, name, s, p)
			}
		}
		wantNoKey(t, "a counter with no parameters", s, api.Params{})
	}
}

func TestInvalidSystemsHaveNoKeys(t *testing.T) {
	for field := range primes {
		for _, s := range invalid(field) {
			for b := range 6 {
				wantNoKey(t, "an invalid system", s, api.Params{Blow: b, Queries: 1})
			}
		}
	}
	for _, field := range noFields {
		s := counter(0, 2)
		s.Field = field
		wantNoKey(t, "a system without a field", s, api.Params{Blow: 1, Queries: 1})
	}
}

func TestKeysOfFixedColumns(t *testing.T) {
	r := rand.New(rand.NewSource(280))
	for field, prime := range primes {
		for range 60 {
			s, p, _ := someProvable(r, field, 6)
			if r.Intn(2) == 0 {
				s.Fixed = append(s.Fixed, randoms(r, 1<<s.Rows, prime))
			}
			k, e := NewKey(s, p)
			want(t, "the error of NewKey", e, api.OK)
			want(t, "the parameters of a key", k.Params, p)
			want(t, "the number of its fixed columns", k.Fixed, len(s.Fixed))
			want(t, "its cap", k.Cap, committed(field, wideOf(field, p.Blow, s.Fixed), p.Cap).cap())
			s.Fixed = nil
			want(t, "its shape", k.Shape, s)
			want(t, "whether it is valid", ValidKey(k), true)
		}
	}
}

// TestTheCapOfAKey: it has 2^Cap digests, but no more than there are wide rows.
func TestTheCapOfAKey(t *testing.T) {
	for field := range primes {
		for cap := range 9 {
			for rows := 1; rows <= 4; rows++ {
				s := counter(field, rows)
				p := api.Params{Blow: 1, Cap: cap, Queries: 1}
				k, e := NewKey(s, p)
				want(t, "the error of NewKey", e, api.OK)
				want(t, "the cap without fixed columns", k, api.Key{Params: p, Shape: s})
				s.Fixed = columns(make([]uint64, 1<<rows))
				k, e = NewKey(s, p)
				want(t, "the error of NewKey", e, api.OK)
				want(t, "the number of digests", len(k.Cap), 1<<min(cap, rows+1))
				if cap > rows {
					want(t, "a leaf", k.Cap[0], hashOf(field, numbers(0)))
				}
			}
		}
	}
}

// TestTheGreatestKeys: 64 fixed columns, and 2^18 wide rows.
func TestTheGreatestKeys(t *testing.T) {
	s := counter(3, 13)
	s.Fixed = slices.Repeat(columns(slices.Repeat(numbers(primes[3]-1), 1<<13)), 64)
	k, e := NewKey(s, api.Params{Blow: 1, Cap: 8, Queries: 64, Grind: 20})
	want(t, "the error of NewKey", e, api.OK)
	want(t, "the number of fixed columns", k.Fixed, 64)
	node := hashOf(3, slices.Repeat(numbers(primes[3]-1), 64)) // constant columns stay constant when they are extended
	for range 14 - 8 {
		node = nodeOf(3, node, node)
	}
	want(t, "the cap", k.Cap, slices.Repeat([]api.Digest{node}, 256))
	want(t, "whether it is valid", ValidKey(k), true)
	s.Fixed = s.Fixed[:1]
	k, e = NewKey(s, api.Params{Blow: 5, Cap: 1, Queries: 1})
	want(t, "the error of NewKey", e, api.OK)
	node = hashOf(3, numbers(primes[3]-1))
	for range 18 - 1 {
		node = nodeOf(3, node, node)
	}
	want(t, "the cap", k.Cap, []api.Digest{node, node})
	s.Fixed = append(slices.Repeat(s.Fixed, 64), s.Fixed[0])
	wantNoKey(t, "a system with 65 fixed columns", s, api.Params{Blow: 1, Queries: 1})
}

// someKey returns a key with a permutation, a lookup and two fixed columns, and four digests.
func someKey(t *testing.T, field int) api.Key {
	t.Helper()
	s := rich(field)
	k, e := NewKey(s, api.Params{Blow: 3, Cap: 2, Queries: 3, Grind: 4})
	want(t, "the error of NewKey", e, api.OK)
	want(t, "whether the key is valid", ValidKey(k), true)
	return k
}

// TestKeysThatAreNotMade: any digests will do, as long as they are proper.
func TestKeysThatAreNotMade(t *testing.T) {
	for field, prime := range primes {
		k := someKey(t, field)
		for i := range k.Cap {
			k.Cap[i] = api.Digest{prime - 1, 0}
		}
		want(t, "whether a key with other digests is valid", ValidKey(k), true)
		k.Shape.Fixed = [][]uint64{}
		want(t, "whether a key with an empty list is valid", ValidKey(k), true)
		k.Shape.Lookups, k.Shape.Perms, k.Shape.Rules, k.Params.Blow = nil, nil, nil, 1
		for fixed := 1; fixed <= 64; fixed++ {
			k.Fixed = fixed
			want(t, "whether a key with fixed columns is valid", ValidKey(k), true)
		}
		k.Fixed, k.Cap = 0, []api.Digest{}
		want(t, "whether a key without fixed columns is valid", ValidKey(k), true)
	}
}

func TestInvalidKeys(t *testing.T) {
	for field, prime := range primes {
		for name, do := range map[string]func(k *api.Key){
			"no cap":                        func(k *api.Key) { k.Cap = nil },
			"a cap that is too short":       func(k *api.Key) { k.Cap = k.Cap[:2] },
			"a cap that is no power of two": func(k *api.Key) { k.Cap = k.Cap[:3] },
			"a cap that is too long":        func(k *api.Key) { k.Cap = slices.Repeat(k.Cap, 2) },
			"a cap for the next level":      func(k *api.Key) { k.Params.Cap = 3 },
			"a digest with P":               func(k *api.Key) { k.Cap[0][0] = prime },
			"a last digest with P":          func(k *api.Key) { k.Cap[3][1] = prime },
			"a digest with a great number":  func(k *api.Key) { k.Cap[1][1] = greatest },
			"fixed columns":                 func(k *api.Key) { k.Shape.Fixed = columns(make([]uint64, 4), make([]uint64, 4)) },
			"a fixed column that is empty":  func(k *api.Key) { k.Shape.Fixed = columns(nil) },
			"a cap but no fixed columns":    func(k *api.Key) { k.Fixed, k.Shape.Perms, k.Shape.Lookups, k.Shape.Rules = 0, nil, nil, nil },
			"too few fixed columns":         func(k *api.Key) { k.Fixed = 1 },
			"65 fixed columns":              func(k *api.Key) { k.Fixed = 65 },
			"less than no fixed columns":    func(k *api.Key) { k.Fixed = -1 },
			"many fixed columns":            func(k *api.Key) { k.Fixed = math.MaxInt },
			"a Blow of 0":                   func(k *api.Key) { k.Params.Blow = 0 },
			"a Blow that is too small":      func(k *api.Key) { k.Params.Blow = 2 },
			"a Blow of 6":                   func(k *api.Key) { k.Params.Blow = 6 },
			"a negative Cap":                func(k *api.Key) { k.Params.Cap = -1 },
			"a Cap of 9":                    func(k *api.Key) { k.Params.Cap = 9 },
			"no queries":                    func(k *api.Key) { k.Params.Queries = 0 },
			"65 queries":                    func(k *api.Key) { k.Params.Queries = 65 },
			"negative grinding":             func(k *api.Key) { k.Params.Grind = -1 },
			"21 bits of grinding":           func(k *api.Key) { k.Params.Grind = 21 },
			"no rows":                       func(k *api.Key) { k.Shape.Rows = 0 },
			"a negative number of rows":     func(k *api.Key) { k.Shape.Rows = math.MinInt },
			"14 rows":                       func(k *api.Key) { k.Shape.Rows = 14 },
			"many rows":                     func(k *api.Key) { k.Shape.Rows = math.MaxInt },
			"too few main columns":          func(k *api.Key) { k.Shape.Main = 2 },
			"no such field":                 func(k *api.Key) { k.Shape.Field = 4 },
			"a negative field":              func(k *api.Key) { k.Shape.Field = -1 },
			"too many public inputs":        func(k *api.Key) { k.Shape.Public = 17 },
			"a variable that is not there":  func(k *api.Key) { k.Shape.Rules[0].Sum[0].Vars[0].Index = 64 },
			"nothing":                       func(k *api.Key) { *k = api.Key{} },
			"nothing but parameters":        func(k *api.Key) { *k = api.Key{Params: k.Params} },
		} {
			k := someKey(t, field)
			do(&k)
			wantInvalid(t, name, k)
		}
	}
}

// TestCapsAboveTheHeight: a key's cap has no more digests than there are wide rows.
func TestCapsAboveTheHeight(t *testing.T) {
	s := counter(2, 1)
	s.Fixed = columns(numbers(1, 2))
	k, e := NewKey(s, api.Params{Blow: 2, Cap: 8, Queries: 1})
	want(t, "the error of NewKey", e, api.OK)
	want(t, "the number of digests", len(k.Cap), 8)
	want(t, "whether the key is valid", ValidKey(k), true)
	k.Params.Cap = 3
	want(t, "whether the key is valid with another Cap", ValidKey(k), true)
	k.Params.Cap = 2
	wantInvalid(t, "a key with a lesser Cap", k)
	k.Params.Cap, k.Cap = 8, make([]api.Digest, 256)
	wantInvalid(t, "a key with a cap above the height", k)
}

func TestWrongNumbersInKeys(t *testing.T) {
	for field := range primes {
		for _, x := range wrongNumbers {
			for name, do := range map[string]func(k *api.Key){
				"Blow":    func(k *api.Key) { k.Params.Blow = x },
				"Cap":     func(k *api.Key) { k.Params.Cap = x },
				"Queries": func(k *api.Key) { k.Params.Queries = x },
				"Grind":   func(k *api.Key) { k.Params.Grind = x },
				"Fixed":   func(k *api.Key) { k.Fixed = x },
				"Field":   func(k *api.Key) { k.Shape.Field = x },
				"Rows":    func(k *api.Key) { k.Shape.Rows = x },
				"Main":    func(k *api.Key) { k.Shape.Main = x },
				"Public":  func(k *api.Key) { k.Shape.Public = x },
			} {
				k := someKey(t, field)
				do(&k)
				wantInvalid(t, name, k)
			}
		}
	}
}
