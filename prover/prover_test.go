package prover

import (
	"math/rand"
	"slices"
	"testing"

	"attestor/api"
)

// P16.2

func TestShapes(t *testing.T) {
	r := rand.New(rand.NewSource(281))
	for field := range primes {
		for range 100 {
			s, p, _ := someProvable(r, field, 6)
			k, _ := NewKey(s, p)
			got, e := Shape(k)
			want(t, "the error of Shape", e, api.OK)
			want(t, "the shape", got, api.Shape{Field: field, Rows: s.Rows, Blow: p.Blow, Cap: p.Cap, Queries: p.Queries,
				Fixed: len(s.Fixed), Main: 8, Aux: len(s.Perms) + len(s.Lookups), Comp: max(1, degreeOf(s)-1)})
		}
	}
}

// TestTheShapeOfEachDegree: the fixed columns, which are zeros here, count like others.
func TestTheShapeOfEachDegree(t *testing.T) {
	for field := range primes {
		for degree := 1; degree <= 8; degree++ {
			s := ofDegree(field, 1, degree)
			s.Fixed = columns(numbers(1, 2))
			s.Rules[1].Sum[0].Vars[0] = f(0)
			k, e := NewKey(s, api.Params{Blow: 4, Cap: 8, Queries: 64})
			want(t, "the error of NewKey", e, api.OK)
			got, e := Shape(k)
			want(t, "the error of Shape", e, api.OK)
			want(t, "the shape", got, api.Shape{Field: field, Rows: 1, Blow: 4, Cap: 8, Queries: 64, Fixed: 1, Main: 1, Comp: max(1, degree-1)})
		}
	}
}

func TestLow(t *testing.T) {
	for field := range primes {
		for rows := 1; rows <= 13; rows++ {
			for blow := 1; blow <= 5; blow++ {
				s := counter(field, rows)
				if rows > twos[field] || !isPossible(s, blow) {
					continue
				}
				for cap := range 9 {
					k, e := NewKey(s, api.Params{Blow: blow, Cap: cap, Queries: 1})
					want(t, "the error of NewKey", e, api.OK)
					got, e := Low(k)
					want(t, "the error of Low", e, api.OK)
					want(t, "the low-degree key", got, api.LowKey{Domain: api.Domain{Field: field, K: rows + blow, Shift: generators[field]}, Degree: rows, Cap: cap})
				}
			}
		}
	}
}

func TestBegin(t *testing.T) {
	r := rand.New(rand.NewSource(282))
	for field, prime := range primes {
		for range 100 {
			s, p, _ := someProvable(r, field, 6)
			s.Public = 1 + r.Intn(16)
			k, _ := NewKey(s, p)
			public := randoms(r, s.Public, prime)
			got, e := Begin(k, public)
			want(t, "the error of Begin", e, api.OK)
			want(t, "the beginning", got, beginOf(s, p, k.Cap, public))
		}
	}
}

// TestTheBeginningOfTheCounter: every number that is absorbed, one by one.
func TestTheBeginningOfTheCounter(t *testing.T) {
	s := counter(0, 2)
	s.Public = 2
	k, _ := NewKey(s, api.Params{Blow: 1, Cap: 1, Queries: 2, Grind: 3})
	// Field, Rows, Main, Public, no fixed columns, a rule; OnSteps (2), three monomials; 1 next0; 96 main0; 96.
	words := hashOf(0, numbers(0, 2, 1, 2, 0, 1, 0, 0, 2, 3, 1, 1, 2, 0, 96, 1, 1, 0, 96, 0))
	wanted := absorbOf(api.Channel{}, 0, 2, 1, 1, 2, 3, words[0], words[1], 96, 7)
	got, e := Begin(k, numbers(96, 7))
	want(t, "the error of Begin", e, api.OK)
	want(t, "the beginning", got, wanted)
	s.Fixed = columns(numbers(1, 1, 1, 1))
	k, _ = NewKey(s, api.Params{Blow: 1, Queries: 2, Grind: 3})
	words = hashOf(0, numbers(0, 2, 1, 2, 1, 1, 0, 0, 2, 3, 1, 1, 2, 0, 96, 1, 1, 0, 96, 0))
	wanted = absorbOf(api.Channel{}, 0, 2, 1, 0, 2, 3, k.Cap[0][0], k.Cap[0][1], words[0], words[1], 96, 7)
	got, e = Begin(k, numbers(96, 7))
	want(t, "the error of Begin", e, api.OK)
	want(t, "the beginning with a fixed column", got, wanted)
}

// TestBeginningsDiffer: each part of a key and of the inputs makes another one.
func TestBeginningsDiffer(t *testing.T) {
	k := someKey(t, 3)
	k.Shape.Lookups = nil // else there is no other possible Blow
	k.Shape.Perms = k.Shape.Perms[1:]
	seen := map[api.Channel]string{}
	add := func(name string, public []uint64, do func(k *api.Key)) {
		other := copyOf(k)
		do(&other)
		c, e := Begin(other, public)
		want(t, "the error of Begin with "+name, e, api.OK)
		if seen[c] != "" {
			t.Errorf("%s and %s have the same beginning", name, seen[c])
		}
		seen[c] = name
	}
	add("nothing changed", numbers(1, 2), func(k *api.Key) {})
	add("other public inputs", numbers(1, 3), func(k *api.Key) {})
	add("other public inputs", numbers(2, 1), func(k *api.Key) {})
	add("another number of inputs", numbers(1, 2, 0), func(k *api.Key) { k.Shape.Public = 3 })
	add("another blow-up", numbers(1, 2), func(k *api.Key) { k.Params.Blow = 4 })
	add("another cap level", numbers(1, 2), func(k *api.Key) { k.Params.Cap, k.Cap = 1, k.Cap[:2] })
	add("other queries", numbers(1, 2), func(k *api.Key) { k.Params.Queries++ })
	add("other grinding", numbers(1, 2), func(k *api.Key) { k.Params.Grind++ })
	add("other rows", numbers(1, 2), func(k *api.Key) { k.Shape.Rows++ })
	add("other main columns", numbers(1, 2), func(k *api.Key) { k.Shape.Main++ })
	add("other fixed columns", numbers(1, 2), func(k *api.Key) { k.Fixed++ })
	add("another coefficient", numbers(1, 2), func(k *api.Key) { k.Shape.Rules[0].Sum[0].Coef++ })
	add("another variable", numbers(1, 2), func(k *api.Key) { k.Shape.Perms[0].Left[0][0].Index = 2 })
	for i := range k.Cap {
		add("another digest", numbers(1, 2), func(k *api.Key) { k.Cap[i][0]++ })
		add("another digest", numbers(1, 2), func(k *api.Key) { k.Cap[i][1]++ })
	}
}

func TestBeginWithWrongInputs(t *testing.T) {
	for field, prime := range primes {
		k := someKey(t, field)
		want(t, "the number of public inputs", k.Shape.Public, 2)
		_, e := Begin(k, numbers(prime-1, 0))
		want(t, "the error of Begin", e, api.OK)
		for _, public := range [][]uint64{nil, {}, {1}, {1, 2, 3}, make([]uint64, 16), make([]uint64, 1<<20),
			{prime, 0}, {0, prime}, {prime + 1, 1}, {1, 2 * prime}, {greatest, 0}, {0, greatest}} {
			c, e := Begin(k, public)
			want(t, "the error of Begin with wrong inputs", e, api.ErrArg)
			want(t, "its channel", c, api.Channel{})
		}
		k.Params.Queries = 0
		_, e = Begin(k, numbers(1, 2))
		want(t, "the error of Begin with a wrong key", e, api.ErrArg)
		k.Params.Queries, k.Shape.Public = 1, 0
		k.Shape.Rules = nil
		_, e = Begin(k, nil)
		want(t, "the error of Begin without inputs", e, api.OK)
		_, e = Begin(k, []uint64{})
		want(t, "the error of Begin without inputs", e, api.OK)
		_, e = Begin(k, numbers(0))
		want(t, "the error of Begin with an input", e, api.ErrArg)
		k.Shape.Public = 16
		_, e = Begin(k, slices.Repeat(numbers(prime-1), 16))
		want(t, "the error of Begin with all inputs", e, api.OK)
	}
}
