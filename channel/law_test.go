package channel

import (
	"math"
	"math/rand"
	"slices"
	"testing"

	"attestor/api"
)

// P8.4

// after returns a channel after the numbers of a list, between which some draws are made.
func after(c api.Channel, l []uint64, draws int) api.Channel {
	for _, x := range l {
		c = Absorb(c, x)
		for range draws {
			c, _ = Draw(c)
		}
	}
	return c
}

func TestChannelsThatDifferStayDifferent(t *testing.T) {
	r := rand.New(rand.NewSource(111))
	for f, p := range primes {
		for _, c := range channels(r, f, 300) {
			d := c
			j := r.Intn(4)
			d.S[j] = (c.S[j]%p + 1 + r.Uint64()%(p-1)) % p // another number modulo P
			for draws := range 3 {
				l := some(r, f, 4)
				want(t, "whether they differ after the same", after(c, l, draws) != after(d, l, draws), true)
			}
		}
	}
}

// TestAllChannelsStayDifferent: all states that differ in two places.
func TestAllChannelsStayDifferent(t *testing.T) {
	for i := range 4 {
		for j := range i {
			absorbed, drawn := map[api.Channel]bool{}, map[api.Channel]bool{}
			c := api.Channel{S: state{11, 22, 33, 44}}
			for c.S[i] = range primes[0] {
				for c.S[j] = range primes[0] {
					absorbed[Absorb(c, 5)] = true
					d, _ := Draw(c)
					drawn[d] = true
				}
			}
			want(t, "the number of channels after a number", uint64(len(absorbed)), primes[0]*primes[0])
			want(t, "the number of channels after a draw", uint64(len(drawn)), primes[0]*primes[0])
		}
	}
}

func TestDifferentNumbersGiveDifferentChannels(t *testing.T) {
	r := rand.New(rand.NewSource(112))
	for f, p := range primes {
		for _, c := range channels(r, f, 10) {
			drawn, _ := Draw(c)
			seen := map[api.Channel]bool{drawn: true}
			n := min(p, 500)
			for x := range n {
				seen[Absorb(c, p-1-x)] = true
			}
			want(t, "the number of channels after a number or a draw", uint64(len(seen)), n+1)
			want(t, "whether absorbing 0 is not drawing", Absorb(c, 0) != drawn, true)
		}
	}
}

func TestNumbersCountModuloP(t *testing.T) {
	r := rand.New(rand.NewSource(113))
	for f, p := range primes {
		for _, c := range channels(r, f, 100) {
			least := modulo(c)
			for _, x := range edges(f) {
				want(t, "Absorb of a number from P on", Absorb(c, x), Absorb(least, x%p))
				want(t, "AbsorbCap of numbers from P on", AbsorbCap(c, []api.Digest{{x, 1}, {2, x}}), AbsorbCap(least, []api.Digest{{x % p, 1}, {2, x % p}}))
				once, good := Grind(c, x, 2)
				again, same := Grind(least, x%p, 2)
				want(t, "Grind of a nonce from P on", once, again)
				want(t, "whether a nonce from P on is good", good, same)
			}
			wanted, _ := Draw(least)
			wantDraw(t, c, wanted)
			one, ok := Search(c, 3, 50)
			other, same := Search(least, 3, 50)
			want(t, "Search in a channel with numbers from P on", one, other)
			want(t, "whether a nonce is found", ok, same)
		}
	}
}

// P8.5

func TestSeveralNumbersAreAbsorbedOneAfterTheOther(t *testing.T) {
	r := rand.New(rand.NewSource(114))
	for f := range primes {
		for _, c := range channels(r, f, 100) {
			l := some(r, f, 2+r.Intn(8))
			want(t, "Absorb of several", Absorb(c, l...), after(c, l, 0))
			i := r.Intn(len(l))
			want(t, "Absorb of two parts", Absorb(Absorb(c, l[:i]...), l[i:]...), Absorb(c, l...))
		}
	}
}

// P1

// saying is what all functions say of some arguments.
type saying struct {
	channels     [6]api.Channel
	drawn, nonce uint64
	position     int
	good, found  bool
}

func answers(c api.Channel, f, bits, most int, l []uint64, cap []api.Digest) saying {
	var s saying
	s.channels[0], s.channels[1], s.channels[2] = New(f), Absorb(c, l...), AbsorbCap(c, cap)
	s.channels[3], s.drawn = Draw(c)
	s.channels[4], s.position = Position(c, bits)
	s.channels[5], s.good = Grind(c, l[0], bits)
	s.nonce, s.found = Search(c, bits, most)
	return s
}

func TestAllArgumentsHaveAnAnswerThatStays(t *testing.T) {
	r := rand.New(rand.NewSource(115))
	for _, f := range append([]int{0, 1, 2, 3}, noFields...) {
		for _, bits := range append(slices.Clone(noBits), 0, 1, 2, 3, 4, 5, 24) {
			for _, most := range []int{math.MinInt, -1, 0, 1, 2, 50, 300} {
				near := max(0, min(f, 3))
				c := api.Channel{Field: f, S: state(some(r, near, 4))}
				l, cap := some(r, near, 1+r.Intn(4)), digests(r, near, r.Intn(4))
				once := answers(c, f, bits, most, l, cap)
				want(t, "the second answer", answers(c, f, bits, most, slices.Clone(l), slices.Clone(cap)), once)
				if slices.Contains(noFields, f) {
					want(t, "the answer without a field", once, saying{})
					continue
				}
				for _, d := range once.channels {
					want(t, "a channel modulo P", modulo(d), d)
				}
			}
		}
	}
}

// Rule 3

func TestListsStayAsTheyAre(t *testing.T) {
	r := rand.New(rand.NewSource(116))
	for f := range primes {
		for n := range 6 {
			room, caps := some(r, f, 12), digests(r, f, 12) // a careless append would write behind a list
			before, capsBefore := slices.Clone(room), slices.Clone(caps)
			Absorb(New(f), room[:n]...)
			AbsorbCap(New(f), caps[:n])
			want(t, "whether the numbers stay", slices.Equal(room, before), true)
			want(t, "whether the digests stay", slices.Equal(caps, capsBefore), true)
		}
	}
}

// TestHistories: what a computation that does without the program gives after 7, 0 and 2^64 - 1 were absorbed, and two draws.
func TestHistories(t *testing.T) {
	states := []state{{27, 26, 49, 50}, {228, 90, 219, 127}, {5382, 5075, 10195, 487}, {916171204, 194232378, 648360877, 109840907}}
	first := []uint64{69, 55, 1991, 981918813}
	least := [][3]int{{0, 13, 39}, {0, 0, 15}, {0, 2, 80}, {0, 4, 4}}
	for f := range primes {
		c, x := Draw(Absorb(New(f), 7, 0, greatest))
		want(t, "the first number", x, first[f])
		c, x = Draw(c)
		want(t, "the second number", x, states[f][0])
		want(t, "the channel at last", c, api.Channel{Field: f, S: states[f]})
		for i, bits := range []int{0, 3, 6} {
			wantSearch(t, c, bits, math.MaxInt, least[f][i])
		}
	}
}

// The examples of the chapter

func TestExamples(t *testing.T) {
	wanted := api.Channel{S: state{22, 69, 88, 87}}
	c, x := Draw(New(0))
	want(t, "the number of Draw(New(0))", x, 22)
	want(t, "the channel of Draw(New(0))", c, wanted)
	for _, example := range [][2]int{{3, 6}, {0, 0}, {25, 0}} {
		_, i := Position(New(0), example[0])
		want(t, "Position(New(0))", i, example[1])
	}
	_, x = Draw(api.Channel{S: state{97, 0, 194, 0}})
	want(t, "the number of Draw of 97 0 194 0", x, 22)
	wantSearch(t, New(0), 0, 5, 0)
	wantSearch(t, New(0), 3, 0, -1)
	want(t, "New(4)", New(4), api.Channel{})
	want(t, "New(4)", New(4), New(0))
	wantDraw(t, api.Channel{Field: 7}, api.Channel{})
}
