package field

import (
	"math"
	"math/big"
	"slices"
	"testing"

	"attestor/api"
)

// table repeats the table of the chapter, so that a wrong number in the program is found.
var table = []api.Field{
	{P: 97, Generator: 5, Two: 5, Exponent: 5},
	{P: 257, Generator: 3, Two: 8, Exponent: 3},
	{P: 12289, Generator: 11, Two: 12, Exponent: 5},
	{P: 998244353, Generator: 3, Two: 23, Exponent: 3},
}

// noFields are numbers that are those of no field.
var noFields = []int{-1, -2, -4, 4, 5, 7, 8, 256, math.MinInt, math.MaxInt, math.MinInt32, math.MaxInt32}

const greatest = math.MaxUint64

// edges returns numbers at which a field could go wrong: small ones, those around the multiples of P, and the greatest ones.
func edges(f int) []uint64 {
	p := table[f].P
	last := greatest / p * p // the greatest multiple of P
	return []uint64{
		0, 1, 2, 3, 5, 40, p / 2, p/2 + 1, p - 2, p - 1,
		p, p + 1, p + 2, 2*p - 1, 2 * p, 2*p + 1, p*p - 1, p * p, p*p + 1,
		1 << 31, 1<<32 - 1, 1 << 32, 1<<32 + 1, 1 << 63, 1<<63 + 1,
		last - 1, last, last + 1, greatest - 1, greatest,
	}
}

// some returns n numbers of any size, the same ones each time.
func some(n int, seed uint64) []uint64 {
	l := make([]uint64, n)
	for i := range l {
		seed ^= seed << 13
		seed ^= seed >> 7
		seed ^= seed << 17
		l[i] = seed
	}
	return l
}

// args returns the edges of a field and some other numbers.
func args(f int) []uint64 { return append(edges(f), some(12, 88172645463325252)...) }

func number(n uint64) *big.Int { return new(big.Int).SetUint64(n) }

// modulo returns x modulo P, from 0 on.
func modulo(f int, x *big.Int) uint64 { return new(big.Int).Mod(x, number(table[f].P)).Uint64() }

// power returns a^n modulo P, without the program.
func power(f int, a, n uint64) uint64 {
	return new(big.Int).Exp(number(a), number(n), number(table[f].P)).Uint64()
}

// inverse returns the inverse of a, and 0 for 0, without the program.
func inverse(f int, a uint64) uint64 {
	x := new(big.Int).ModInverse(number(a%table[f].P), number(table[f].P))
	if x == nil {
		return 0
	}
	return x.Uint64()
}

func greatestDivisor(a, b uint64) uint64 {
	return new(big.Int).GCD(nil, nil, number(a), number(b)).Uint64()
}

// want reports a result that is not the one that is wanted.
func want[T comparable](t *testing.T, what string, got, wanted T) {
	t.Helper()
	if got != wanted {
		t.Errorf("%s is %v, not %v", what, got, wanted)
	}
}

func wantList(t *testing.T, what string, got, wanted []uint64) {
	t.Helper()
	if !slices.Equal(got, wanted) {
		t.Errorf("%s is %v, not %v", what, got, wanted)
	}
}

// P1.1

func TestTheNumbersOfTheTable(t *testing.T) {
	for f, x := range table {
		want(t, "Valid", Valid(f), true)
		want(t, "P", P(f), x.P)
		want(t, "Generator", Generator(f), x.Generator)
		want(t, "Twos", Twos(f), x.Two)
		want(t, "Exponent", Exponent(f), int(x.Exponent))
		got, ok := Of(f)
		want(t, "Of", got, x)
		want(t, "the bool of Of", ok, true)
	}
}

func TestTheNumbersOfNoField(t *testing.T) {
	for _, f := range noFields {
		want(t, "Valid", Valid(f), false)
		want(t, "P", P(f), 0)
		want(t, "Generator", Generator(f), 0)
		want(t, "Twos", Twos(f), 0)
		want(t, "Exponent", Exponent(f), 0)
		got, ok := Of(f)
		want(t, "Of", got, api.Field{})
		want(t, "the bool of Of", ok, false)
	}
}

func TestTheNumbersAreWhatTheTermsSay(t *testing.T) {
	for f := range table {
		p := P(f)
		if !number(p).ProbablyPrime(20) {
			t.Errorf("%d is not prime", p)
		}
		if (p-1)%(1<<Twos(f)) != 0 || (p-1)%(2<<Twos(f)) == 0 {
			t.Errorf("2^%d is not the greatest power of two that divides %d", Twos(f), p-1)
		}
		want(t, "the divisor of exponent and P - 1", greatestDivisor(uint64(Exponent(f)), p-1), 1)
		for _, q := range []uint64{2, 3, 7, 17} { // the primes that divide some P - 1
			if (p-1)%q == 0 && power(f, Generator(f), (p-1)/q) == 1 {
				t.Errorf("%d does not generate the field %d", Generator(f), f)
			}
		}
	}
}

// P1.1a

func TestIs(t *testing.T) {
	for f, x := range table {
		want(t, "Is of none", Is(f), true)
		want(t, "Is of nil", Is(f, nil...), true)
		want(t, "Is of the empty list", Is(f, []uint64{}...), true)
		want(t, "Is of elements", Is(f, 0, 1, x.P/2, x.P-2, x.P-1), true)
		for _, n := range args(f) {
			want(t, "Is of one number", Is(f, n), n < x.P)
			want(t, "Is of a first number", Is(f, n, 0, 1), n < x.P)
			want(t, "Is of a middle number", Is(f, 1, n, 0), n < x.P)
			want(t, "Is of a last number", Is(f, 1, 0, n), n < x.P)
		}
	}
	for _, f := range noFields {
		want(t, "Is of none without a field", Is(f), false)
		want(t, "Is of nil without a field", Is(f, nil...), false)
		want(t, "Is of 0 without a field", Is(f, 0), false)
		want(t, "Is without a field", Is(f, 1, 2, greatest), false)
	}
}

func TestReduce(t *testing.T) {
	for f := range table {
		for _, n := range args(f) {
			want(t, "Reduce", Reduce(f, n), modulo(f, number(n)))
		}
	}
	for _, f := range noFields {
		for _, n := range []uint64{0, 1, 96, 98, greatest} {
			want(t, "Reduce without a field", Reduce(f, n), 0)
		}
	}
}

// P1.2

func TestSumsAndProductsOfTwo(t *testing.T) {
	for f := range table {
		for _, a := range args(f) {
			want(t, "Neg", Neg(f, a), modulo(f, new(big.Int).Neg(number(a))))
			for _, b := range args(f) {
				want(t, "Add", Add(f, a, b), modulo(f, new(big.Int).Add(number(a), number(b))))
				want(t, "Sub", Sub(f, a, b), modulo(f, new(big.Int).Sub(number(a), number(b))))
				want(t, "Mul", Mul(f, a, b), modulo(f, new(big.Int).Mul(number(a), number(b))))
				want(t, "Div", Div(f, a, b), modulo(f, new(big.Int).Mul(number(a), number(inverse(f, b)))))
			}
		}
	}
}

func TestInv(t *testing.T) {
	for f, x := range table {
		for _, a := range args(f) {
			want(t, "Inv", Inv(f, a), inverse(f, a))
		}
		for a := range min(x.P, 12289) {
			want(t, "Inv", Inv(f, a), inverse(f, a))
		}
		for _, zero := range []uint64{0, x.P, 2 * x.P, greatest / x.P * x.P} {
			want(t, "Inv of 0", Inv(f, zero), 0)
			want(t, "Div by 0", Div(f, 5, zero), 0)
			want(t, "Div of 0", Div(f, zero, 5), 0)
			want(t, "Neg of 0", Neg(f, zero), 0)
		}
	}
}

func TestOperationsWithoutAField(t *testing.T) {
	numbers := []uint64{0, 1, 2, 5, 96, 97, 98, 1 << 32, greatest}
	for _, f := range noFields {
		for _, a := range numbers {
			want(t, "Neg", Neg(f, a), 0)
			want(t, "Inv", Inv(f, a), 0)
			want(t, "Order", Order(f, a), 0)
			for _, b := range numbers {
				want(t, "Add", Add(f, a, b), 0)
				want(t, "Sub", Sub(f, a, b), 0)
				want(t, "Mul", Mul(f, a, b), 0)
				want(t, "Div", Div(f, a, b), 0)
				want(t, "Pow", Pow(f, a, b), 0)
			}
		}
		for _, k := range []int{math.MinInt, -1, 0, 1, 2, 5, 23, 63, 64, math.MaxInt} {
			want(t, "Root", Root(f, k), 0)
		}
	}
}

// P1.3

func TestPow(t *testing.T) {
	for f, x := range table {
		for _, a := range args(f) {
			product := uint64(1)
			for n := range uint64(20) {
				want(t, "Pow", Pow(f, a, n), product)
				product = modulo(f, new(big.Int).Mul(number(product), number(a)))
			}
			for _, n := range args(f) {
				want(t, "Pow", Pow(f, a, n), power(f, a, n))
			}
		}
		for _, zero := range []uint64{0, x.P, 3 * x.P} {
			want(t, "Pow(0, 0)", Pow(f, zero, 0), 1)
			want(t, "Pow(0, 1)", Pow(f, zero, 1), 0)
			want(t, "Pow(0, P - 1)", Pow(f, zero, x.P-1), 0)
			want(t, "Pow(0, greatest)", Pow(f, zero, greatest), 0)
		}
		// A program that takes n modulo P answers 1 to the first one.
		want(t, "Pow(5, P)", Pow(f, 5, x.P), 5)
		want(t, "Pow(5, P - 1)", Pow(f, 5, x.P-1), 1)
		want(t, "Pow(5, 2P)", Pow(f, 5, 2*x.P), 25)
	}
}

// P1.4

func TestRoot(t *testing.T) {
	for f, x := range table {
		for k := range x.Two + 1 {
			want(t, "Root", Root(f, k), power(f, x.Generator, (x.P-1)>>k))
		}
		for _, k := range []int{math.MinInt, math.MinInt32, -64, -63, -2, -1, x.Two + 1, x.Two + 2, 24, 31, 32, 63, 64, 65, 256, math.MaxInt32, math.MaxInt} {
			want(t, "Root of no k", Root(f, k), 0)
		}
	}
}

func TestOrder(t *testing.T) {
	for f, x := range table {
		for _, zero := range []uint64{0, x.P, 2 * x.P, greatest / x.P * x.P} {
			want(t, "Order of 0", Order(f, zero), 0)
		}
		want(t, "Order of 1", Order(f, 1), 1)
		want(t, "Order of P + 1", Order(f, x.P+1), 1)
		want(t, "Order of P - 1", Order(f, x.P-1), 2)
		want(t, "Order of 2P - 1", Order(f, 2*x.P-1), 2)
		// The order of the power j of a generator is P - 1 without what it has in common with j.
		js := append(some(50, 362436069), 0, 1, 2, 3, 4, 7, 8, 17, 21, 34, 51, 119, x.P-2, x.P-1, 1<<20, 1<<22, 1<<23, 1<<24)
		for i := range uint64(2000) {
			js = append(js, i)
		}
		for _, j := range js {
			want(t, "Order", Order(f, power(f, x.Generator, j)), (x.P-1)/greatestDivisor(j%(x.P-1), x.P-1))
		}
	}
}

func TestOrderIsTheLeast(t *testing.T) {
	for f := range 2 {
		for a := uint64(1); a < table[f].P; a++ {
			n, x := uint64(1), a
			for x != 1 {
				n, x = n+1, x*a%table[f].P
			}
			want(t, "Order", Order(f, a), n)
			want(t, "Order of the same element", Order(f, a+table[f].P), n)
		}
	}
}

// P1.5

func TestSum(t *testing.T) {
	for f, x := range table {
		want(t, "Sum of none", Sum(f), 0)
		want(t, "Sum of nil", Sum(f, nil...), 0)
		want(t, "Sum of the empty list", Sum(f, []uint64{}...), 0)
		for _, n := range args(f) {
			want(t, "Sum of one", Sum(f, n), n%x.P)
			want(t, "Sum of two", Sum(f, n, 1), modulo(f, new(big.Int).Add(number(n), number(1))))
		}
		for _, l := range [][]uint64{args(f), some(300, 5), slices.Repeat([]uint64{greatest}, 40), slices.Repeat([]uint64{x.P - 1}, 1000)} {
			before, s := slices.Clone(l), new(big.Int)
			for _, n := range l {
				s.Add(s, number(n))
			}
			want(t, "Sum", Sum(f, l...), modulo(f, s))
			wantList(t, "the argument of Sum", l, before)
		}
	}
	for _, f := range noFields {
		want(t, "Sum of none without a field", Sum(f), 0)
		want(t, "Sum without a field", Sum(f, 1, 2, greatest), 0)
	}
}

func TestDot(t *testing.T) {
	for f, x := range table {
		lists := [][]uint64{nil, {}, {7}, {0, 1}, {x.P, x.P + 1, 3}, args(f), some(100, 7), slices.Repeat([]uint64{greatest}, 70), slices.Repeat([]uint64{x.P - 1}, 500)}
		for _, a := range lists {
			for _, b := range lists {
				beforeA, beforeB, s := slices.Clone(a), slices.Clone(b), new(big.Int)
				for i := range min(len(a), len(b)) {
					s.Add(s, new(big.Int).Mul(number(a[i]), number(b[i])))
				}
				want(t, "Dot", Dot(f, a, b), modulo(f, s))
				wantList(t, "the first argument of Dot", a, beforeA)
				wantList(t, "the second argument of Dot", b, beforeB)
			}
		}
	}
	for _, f := range noFields {
		want(t, "Dot without a field", Dot(f, []uint64{1, 2}, []uint64{3, 4}), 0)
		want(t, "Dot of none without a field", Dot(f, nil, nil), 0)
	}
}

func TestInverses(t *testing.T) {
	for f, x := range table {
		zeros := []uint64{0, x.P, 2 * x.P, greatest / x.P * x.P}
		lists := [][]uint64{
			nil, {}, {0}, {1}, {x.P}, {x.P - 1}, {greatest}, {0, 5}, {5, 0}, {0, 5, 0, 0, 7, 0},
			{x.P, 2, x.P + 2}, {3, 3, 3}, zeros, args(f), some(1000, 11), slices.Concat(zeros, some(9, 13), zeros),
		}
		for _, l := range lists {
			before, wanted := slices.Clone(l), make([]uint64, len(l))
			for i, n := range l {
				wanted[i] = inverse(f, n)
			}
			wantList(t, "Inverses", Inverses(f, l), wanted)
			wantList(t, "the argument of Inverses", l, before)
		}
	}
	for _, f := range noFields {
		want(t, "the length of Inverses without a field", len(Inverses(f, []uint64{1, 2})), 0)
		want(t, "the length of Inverses of nil without a field", len(Inverses(f, nil)), 0)
	}
}

func TestInversesSharesNoMemory(t *testing.T) {
	l := []uint64{5, 0, 2, 1, 1}
	first := Inverses(0, l)
	second := Inverses(0, l)
	first[0], first[1] = 90, 91
	l[2], l[3] = 92, 93
	wantList(t, "what was given", l, []uint64{5, 0, 92, 93, 1})
	wantList(t, "the first result", first, []uint64{90, 91, 49, 1, 1})
	wantList(t, "the second result", second, []uint64{39, 0, 49, 1, 1})
	part := Inverses(0, l[:1]) // what lies behind a part is not touched
	part = append(part, 77)
	wantList(t, "what was given", l, []uint64{5, 0, 92, 93, 1})
	wantList(t, "the result for a part", part, []uint64{39, 77})
}

// P1.6

func TestTheLawsOfAField(t *testing.T) {
	for f, x := range table {
		l := append(edges(f)[:14], some(8, 17)...)
		for _, a := range l {
			want(t, "a + 0", Add(f, a, 0), a%x.P)
			want(t, "a 1", Mul(f, a, 1), a%x.P)
			want(t, "a + Neg(a)", Add(f, a, Neg(f, a)), 0)
			if a%x.P != 0 {
				want(t, "a Inv(a)", Mul(f, a, Inv(f, a)), 1)
				want(t, "Pow(a, P - 1)", Pow(f, a, x.P-1), 1)
			}
			for _, b := range l {
				want(t, "a + b", Add(f, a, b), Add(f, b, a))
				want(t, "a b", Mul(f, a, b), Mul(f, b, a))
				want(t, "(a - b) + b", Add(f, Sub(f, a, b), b), a%x.P)
				for _, c := range l {
					want(t, "(a + b) + c", Add(f, Add(f, a, b), c), Add(f, a, Add(f, b, c)))
					want(t, "(a b) c", Mul(f, Mul(f, a, b), c), Mul(f, a, Mul(f, b, c)))
					want(t, "a (b + c)", Mul(f, a, Add(f, b, c)), Add(f, Mul(f, a, b), Mul(f, a, c)))
				}
			}
		}
	}
}

func TestTheLawsOfPowers(t *testing.T) {
	exponents := []uint64{0, 1, 2, 3, 7, 96, 97, 12288, 12289, 998244352, 998244353, 1 << 40, greatest / 2}
	for f := range table {
		for _, a := range args(f) {
			for _, m := range exponents {
				for _, n := range exponents {
					want(t, "Pow(a, m + n)", Pow(f, a, m+n), Mul(f, Pow(f, a, m), Pow(f, a, n)))
				}
			}
		}
	}
}

func TestThePowerWithTheExponentCanBeUndone(t *testing.T) {
	for f, x := range table {
		e := uint64(Exponent(f))
		back := new(big.Int).ModInverse(number(e), number(x.P-1)).Uint64()
		for a := range min(x.P, 12289) {
			want(t, "the power that is undone", Pow(f, Pow(f, a, e), back), a)
		}
		for _, a := range args(f) {
			want(t, "the power that is undone", Pow(f, Pow(f, a, e), back), a%x.P)
		}
	}
}

// P1.7

func TestTheRootsAreSquareRootsOfEachOther(t *testing.T) {
	for f, x := range table {
		for k := range x.Two + 1 {
			want(t, "the order of Root", Order(f, Root(f, k)), 1<<k)
			if k > 0 {
				want(t, "the square of Root", Mul(f, Root(f, k), Root(f, k)), Root(f, k-1))
			}
		}
		want(t, "Root(1)", Root(f, 1), x.P-1)
		want(t, "Root(0)", Root(f, 0), 1)
	}
}

func TestThePowersOfTheGeneratorAreAllElementsBut0(t *testing.T) {
	for f := range 3 {
		seen := map[uint64]bool{}
		for n := range P(f) - 1 {
			seen[Pow(f, Generator(f), n)] = true
		}
		want(t, "the number of powers", uint64(len(seen)), P(f)-1)
		for a := range P(f) {
			want(t, "whether a number is a power", seen[a], a != 0)
		}
	}
}

// The examples of the chapter, and P1.

func TestExamples(t *testing.T) {
	examples := []struct {
		call        string
		got, wanted uint64
	}{
		{"Add(0, 50, 60)", Add(0, 50, 60), 13},
		{"Sub(0, 3, 5)", Sub(0, 3, 5), 95},
		{"Mul(0, 10, 10)", Mul(0, 10, 10), 3},
		{"Neg(0, 0)", Neg(0, 0), 0},
		{"Inv(0, 5)", Inv(0, 5), 39},
		{"Inv(0, 0)", Inv(0, 0), 0},
		{"Div(0, 1, 2)", Div(0, 1, 2), 49},
		{"Pow(0, 5, 4)", Pow(0, 5, 4), 43},
		{"Pow(0, 0, 0)", Pow(0, 0, 0), 1},
		{"Root(0, 5)", Root(0, 5), 28},
		{"Root(0, 4)", Root(0, 4), 8},
		{"Root(0, 3)", Root(0, 3), 64},
		{"Root(0, 2)", Root(0, 2), 22},
		{"Root(0, 1)", Root(0, 1), 96},
		{"Root(0, 0)", Root(0, 0), 1},
		{"Root(0, 6)", Root(0, 6), 0},
		{"Root(1, 8)", Root(1, 8), 3},
		{"Root(1, 3)", Root(1, 3), 64},
		{"Root(1, 2)", Root(1, 2), 241},
		{"Root(2, 12)", Root(2, 12), 1331},
		{"Inv(3, 2)", Inv(3, 2), 499122177},
		{"Order(0, 5)", Order(0, 5), 96},
		{"Order(0, 96)", Order(0, 96), 2},
		{"Order(0, 8)", Order(0, 8), 16},
		{"Order(1, 16)", Order(1, 16), 4},
		{"Order(0, 97)", Order(0, 97), 0},
		{"Sum(0, 90, 10, 100)", Sum(0, 90, 10, 100), 6},
		{"Dot(0, (1, 2, 3), (4, 5))", Dot(0, []uint64{1, 2, 3}, []uint64{4, 5}), 14},
		{"Add(4, 1, 1)", Add(4, 1, 1), 0},
		{"Mul(3, 998244352, 998244352)", Mul(3, 998244352, 998244352), 1},
	}
	for _, x := range examples {
		want(t, x.call, x.got, x.wanted)
	}
	wantList(t, "Inverses(0, (5, 0, 2))", Inverses(0, []uint64{5, 0, 2}), []uint64{39, 0, 49})
}

// answers returns what all functions say of some arguments.
func answers(f int, a, b uint64, k int, l, m []uint64) []uint64 {
	field, known := Of(f)
	out := []uint64{
		P(f), Generator(f), uint64(Twos(f)), uint64(Exponent(f)), field.P, field.Generator, uint64(field.Two), field.Exponent,
		Reduce(f, a), Add(f, a, b), Sub(f, a, b), Mul(f, a, b), Neg(f, a), Inv(f, a), Div(f, a, b), Pow(f, a, b),
		Root(f, k), Order(f, a), Sum(f, l...), Dot(f, l, m),
	}
	for _, yes := range []bool{known, Valid(f), Is(f, l...)} {
		if yes {
			out = append(out, 1)
		} else {
			out = append(out, 0)
		}
	}
	return append(out, Inverses(f, l)...)
}

func TestAllArgumentsHaveAnAnswerThatStays(t *testing.T) {
	lists := [][]uint64{nil, {}, {0}, {greatest, 0, 97}, {1, 2, 3, 4}}
	numbers := []uint64{0, 1, 96, 97, 998244353, 1 << 63, greatest}
	for _, f := range append([]int{0, 1, 2, 3}, noFields...) {
		for _, k := range []int{math.MinInt, -1, 0, 5, 23, 24, 64, math.MaxInt} {
			for _, a := range numbers {
				for _, b := range numbers {
					for i, l := range lists {
						m := lists[len(lists)-1-i]
						once, again := answers(f, a, b, k, l, m), answers(f, a, b, k, l, m)
						if !slices.Equal(once, again) {
							t.Fatalf("field %d with %d, %d, %d, %v: %v, and then %v", f, a, b, k, l, once, again)
						}
						if Valid(f) && !Is(f, once[8:20]...) {
							t.Fatalf("field %d with %d, %d, %d, %v: %v are not all elements", f, a, b, k, l, once[8:20])
						}
					}
				}
			}
		}
	}
}
