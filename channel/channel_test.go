package channel

import (
	"math"
	"math/rand"
	"testing"

	"attestor/api"
)

// P8.1

func TestNew(t *testing.T) {
	for f := range primes {
		want(t, "New", New(f), api.Channel{Field: f})
	}
	for _, f := range noFields {
		want(t, "New of no field", New(f), api.Channel{})
	}
}

func TestAbsorb(t *testing.T) {
	r := rand.New(rand.NewSource(101))
	for f := range primes {
		for _, c := range channels(r, f, 200) {
			want(t, "Absorb of nothing", Absorb(c), modulo(c))
			want(t, "Absorb of an empty list", Absorb(c, []uint64{}...), modulo(c))
			for _, x := range edges(f) {
				want(t, "Absorb of a number", Absorb(c, x), absorbOf(c, x))
			}
			l := some(r, f, r.Intn(9))
			want(t, "Absorb", Absorb(c, l...), absorbOf(c, l...))
		}
		l := some(r, f, 5000)
		want(t, "Absorb of many numbers", Absorb(New(f), l...), absorbOf(api.Channel{Field: f}, l...))
	}
}

func TestAbsorbCap(t *testing.T) {
	r := rand.New(rand.NewSource(102))
	for f := range primes {
		for _, c := range channels(r, f, 200) {
			want(t, "AbsorbCap of nothing", AbsorbCap(c, nil), modulo(c))
			want(t, "AbsorbCap of an empty list", AbsorbCap(c, []api.Digest{}), modulo(c))
			for n := 1; n < 5; n++ {
				l := digests(r, f, n)
				want(t, "AbsorbCap", AbsorbCap(c, l), absorbOf(c, flat(l)...))
			}
		}
		c := New(f)
		want(t, "whether the order in a digest counts", AbsorbCap(c, []api.Digest{{1, 2}}) != AbsorbCap(c, []api.Digest{{2, 1}}), true)
		want(t, "whether the order of digests counts", AbsorbCap(c, []api.Digest{{1, 2}, {3, 4}}) != AbsorbCap(c, []api.Digest{{3, 4}, {1, 2}}), true)
	}
}

func TestAbsorbWithoutAField(t *testing.T) {
	for _, c := range outside() {
		want(t, "Absorb of nothing without a field", Absorb(c), api.Channel{})
		want(t, "Absorb of a number without a field", Absorb(c, 1), api.Channel{})
		want(t, "Absorb of several numbers without a field", Absorb(c, 0, 5, greatest), api.Channel{})
		want(t, "AbsorbCap of nothing without a field", AbsorbCap(c, nil), api.Channel{})
		want(t, "AbsorbCap without a field", AbsorbCap(c, []api.Digest{{1, 2}, {3, 4}}), api.Channel{})
	}
}

// P8.2

// wantDraw reports a draw that is not the one that is wanted.
func wantDraw(t *testing.T, c, wanted api.Channel) {
	t.Helper()
	got, x := Draw(c)
	want(t, "the channel after Draw", got, wanted)
	want(t, "the number that is drawn", x, wanted.S[0])
}

func TestDraw(t *testing.T) {
	r := rand.New(rand.NewSource(103))
	for f, p := range primes {
		for _, c := range channels(r, f, 2000) {
			wantDraw(t, c, drawOf(c))
		}
		for _, x := range []uint64{0, 1, p / 2, p - 1} {
			s := state{x, r.Uint64() % p, 0, p - 1}
			wantDraw(t, leadingTo(f, s), api.Channel{Field: f, S: s})
		}
	}
	for _, c := range outside() {
		wantDraw(t, c, api.Channel{})
	}
}

func TestPosition(t *testing.T) {
	r := rand.New(rand.NewSource(104))
	for f, p := range primes {
		all := channels(r, f, 200)
		for _, x := range []uint64{0, 1, p / 2, 1<<24 - 1, 1 << 24, 1<<24 + 1, p - 1} {
			all = append(all, leadingTo(f, state{x % p, 1, 2, 3}))
		}
		for _, c := range all {
			wanted := drawOf(c)
			for bits, power := 0, uint64(1); bits <= 24; bits, power = bits+1, 2*power {
				got, i := Position(c, bits)
				want(t, "the channel after Position", got, wanted)
				want(t, "the position", i, int(wanted.S[0]%power))
			}
		}
	}
}

func TestPositionOfNothing(t *testing.T) {
	r := rand.New(rand.NewSource(105))
	nothing := func(c api.Channel, bits int) {
		t.Helper()
		got, i := Position(c, bits)
		want(t, "the channel without a position", got, api.Channel{})
		want(t, "no position", i, 0)
	}
	for _, bits := range noBits {
		for f := range primes {
			for _, c := range channels(r, f, 5) {
				nothing(c, bits)
			}
		}
		for _, c := range outside() {
			nothing(c, bits)
		}
	}
	for bits := range 25 {
		for _, c := range outside() {
			nothing(c, bits)
		}
	}
}

// P8.3

// wantGrind reports a result of Grind that is not the one that the chapter's acts have.
func wantGrind(t *testing.T, c api.Channel, nonce uint64, bits int) {
	t.Helper()
	wanted := drawOf(absorbOf(c, nonce))
	got, good := Grind(c, nonce, bits)
	want(t, "the channel after Grind", got, wanted)
	want(t, "whether the nonce is good", good, wanted.S[0]%(uint64(1)<<bits) == 0)
}

func TestGrind(t *testing.T) {
	r := rand.New(rand.NewSource(106))
	for f := range primes {
		for _, c := range channels(r, f, 20) {
			for _, nonce := range append(edges(f), some(r, f, 5)...) {
				for _, bits := range []int{0, 1, 2, 3, 5, 24, r.Intn(25)} {
					wantGrind(t, c, nonce, bits)
				}
			}
		}
	}
}

// TestGrindAroundPowers: the numbers that are drawn have as few and as many twos as possible.
func TestGrindAroundPowers(t *testing.T) {
	r := rand.New(rand.NewSource(107))
	for f, p := range primes {
		numbers := []uint64{0, 1, p - 1, 3 << 23, 1<<24 + 1<<23}
		for k := range 30 {
			numbers = append(numbers, 1<<k-1, 1<<k, 1<<k+1, 3<<k)
		}
		for _, x := range numbers {
			for _, nonce := range append(some(r, f, 2), 0, p-1, p, greatest) {
				for bits := range 25 {
					wantGrind(t, grindingTo(f, nonce, state{x % p, 5, 6, 7}), nonce, bits)
				}
			}
		}
	}
}

func TestGrindOfNothing(t *testing.T) {
	r := rand.New(rand.NewSource(108))
	nothing := func(c api.Channel, bits int) {
		t.Helper()
		for _, nonce := range []uint64{0, 1, 77, greatest} {
			got, good := Grind(c, nonce, bits)
			want(t, "the channel that was not ground", got, api.Channel{})
			want(t, "whether the nonce is good", good, false)
		}
	}
	for _, bits := range noBits {
		for f := range primes {
			for _, c := range channels(r, f, 5) {
				nothing(c, bits)
			}
			nothing(grindingTo(f, 77, state{}), bits) // with a nonce that is good for all numbers of bits
		}
		for _, c := range outside() {
			nothing(c, bits)
		}
	}
	for bits := range 25 {
		for _, c := range outside() {
			nothing(c, bits)
		}
	}
}

// wantSearch reports a nonce that is not the one that is wanted, where none is wanted if wanted is negative.
func wantSearch(t *testing.T, c api.Channel, bits, most, wanted int) {
	t.Helper()
	got, ok := Search(c, bits, most)
	if ok != (wanted >= 0) || got != uint64(max(wanted, 0)) {
		t.Errorf("Search in %v of %d bits below %d is %d, %v, not %d", c, bits, most, got, ok, wanted)
	}
}

// leastOf returns the least good nonce below a number, and -1 if there is none; drawn are the numbers that are drawn after the nonces.
func leastOf(drawn []uint64, bits, below int) int {
	for nonce := range max(0, min(below, len(drawn))) {
		if drawn[nonce]%(1<<bits) == 0 {
			return nonce
		}
	}
	return -1
}

// TestSearch searches among all nonces of the small fields, and among some of the great one.
func TestSearch(t *testing.T) {
	r := rand.New(rand.NewSource(109))
	for f, p := range primes {
		for range 8 >> f {
			c := api.Channel{Field: f, S: state(some(r, f, 4))}
			drawn := make([]uint64, min(p, 4000))
			if f == 2 {
				drawn = make([]uint64, p)
			}
			for nonce := range drawn {
				drawn[nonce] = drawOf(absorbOf(c, uint64(nonce))).S[0]
			}
			for bits := range 25 {
				below := []int{math.MinInt, -1000, -1, 0, 1, 2, 3, 10, 96, 97, 98, 256, 257, 258, 1000, 3999, 4000}
				if f < 3 {
					below = append(below, 12288, 12289, 12290, 1<<20, 1<<40, math.MaxInt)
				}
				if least := leastOf(drawn, bits, len(drawn)); least >= 0 {
					below = append(below, least-1, least, least+1)
				}
				for _, most := range below {
					wantSearch(t, c, bits, most, leastOf(drawn, bits, most))
				}
			}
		}
	}
}

// TestSearchOfAMadeNonce: the nonce is good for all numbers of bits, and there are hardly any others for 24 bits.
func TestSearchOfAMadeNonce(t *testing.T) {
	for _, nonce := range []int{0, 1, 96, 97, 5000, 12289} {
		c := grindingTo(3, uint64(nonce), state{0, 5, 6, 7})
		for _, most := range []int{nonce + 1, nonce + 2, math.MaxInt} {
			wantSearch(t, c, 24, most, nonce)
		}
		for _, most := range []int{nonce, nonce - 1, -nonce, math.MinInt} {
			wantSearch(t, c, 24, most, -1)
		}
	}
}

// TestSearchOfTheLastElement: the only good nonce is P - 1, in channels that are found by making it good.
func TestSearchOfTheLastElement(t *testing.T) {
	for f, p := range primes[:3] {
		for x, found := uint64(0), 0; found < 3; x++ {
			c := grindingTo(f, p-1, state{0, x % p, x / p % p, 7})
			drawn := make([]uint64, p-1)
			for nonce := range drawn {
				drawn[nonce] = drawOf(absorbOf(c, uint64(nonce))).S[0]
			}
			if leastOf(drawn, 24, len(drawn)) >= 0 {
				continue
			}
			found++
			wantSearch(t, c, 24, math.MaxInt, int(p-1))
			wantSearch(t, c, 24, int(p), int(p-1))
			wantSearch(t, c, 24, int(p-1), -1)
		}
	}
}

// TestSearchEnds: the last nonce that is tried is that before MaxSearch.
func TestSearchEnds(t *testing.T) {
	last := 1<<20 - 1
	c := grindingTo(3, uint64(last), state{0, 5, 6, 7})
	wantSearch(t, c, 24, math.MaxInt, last)
	c = grindingTo(3, uint64(last+1), state{0, 5, 6, 7})
	wantSearch(t, c, 24, math.MaxInt, -1)
	_, good := Grind(c, uint64(last+1), 24)
	want(t, "whether the nonce after the last one is good", good, true)
}

func TestSearchOfNothing(t *testing.T) {
	r := rand.New(rand.NewSource(110))
	for _, most := range []int{math.MinInt, -1, 0, 1, 1000, 1 << 20, math.MaxInt} {
		for _, bits := range noBits {
			for f := range primes {
				wantSearch(t, api.Channel{Field: f, S: state(some(r, f, 4))}, bits, most, -1)
				wantSearch(t, grindingTo(f, 0, state{}), bits, most, -1)
			}
			for _, c := range outside() {
				wantSearch(t, c, bits, most, -1)
			}
		}
		for _, c := range outside() {
			wantSearch(t, c, 0, most, -1)
			wantSearch(t, c, 24, most, -1)
		}
	}
}
