package ratio

import (
	"math"
	"math/big"
	"math/rand"
	"slices"
	"strconv"
	"testing"

	"attestor/api"
)

// P2.4

func TestValid(t *testing.T) {
	for _, x := range fractions() {
		want(t, "Valid of "+quotient(x).String(), Valid(x), true)
	}
	for i, x := range noFractions() {
		want(t, "Valid of the pair "+strconv.Itoa(i), Valid(x), false)
	}
}

func TestNew(t *testing.T) {
	all := numbers()
	kept := clones(all)
	for _, a := range all {
		for _, b := range all {
			got, e := New(a, b)
			if len(b) == 0 {
				wantNoRatio(t, "New with the Den 0", got, e, api.ErrRange)
				continue
			}
			wantQuotient(t, "New", got, e, new(big.Rat).SetFrac(whole(a), whole(b)))
		}
	}
	for i := range all {
		wantNat(t, "an argument", all[i], kept[i])
	}
}

func TestNewOfNoNumbers(t *testing.T) {
	for _, a := range invalid() {
		// With nil, the Den 0 would be an error, too.
		for _, b := range append(invalid(), nil, api.Nat{}, api.Nat{1}, api.Nat{5, 7}, ones(64)) {
			got, e := New(a, b)
			wantNoRatio(t, "New", got, e, api.ErrArg)
			got, e = New(b, a)
			wantNoRatio(t, "New", got, e, api.ErrArg)
		}
	}
}

func TestOf(t *testing.T) {
	l := []uint64{0, 1, 2, 3, 4, 6, 12, 97, 1 << 31, limb, 1 << 32, 1<<32 + 1, 6 << 32, 1 << 63, greatest - 1, greatest}
	for _, a := range l {
		for _, b := range l {
			got, e := Of(a, b)
			if b == 0 {
				wantNoRatio(t, "Of with the Den 0", got, e, api.ErrRange)
				continue
			}
			wantQuotient(t, "Of", got, e, new(big.Rat).SetFrac(new(big.Int).SetUint64(a), new(big.Int).SetUint64(b)))
		}
	}
}

// P2.5

// checkFractions compares what the program computes of two fractions with what math/big does.
func checkFractions(t *testing.T, x, y api.Ratio) {
	t.Helper()
	a, b := quotient(x), quotient(y)
	got, e := Add(x, y)
	wantQuotient(t, "Add", got, e, new(big.Rat).Add(a, b))
	got, e = Mul(x, y)
	wantQuotient(t, "Mul", got, e, new(big.Rat).Mul(a, b))
	want(t, "Order", Order(x, y), a.Cmp(b))
}

func TestArithmeticOfFractions(t *testing.T) {
	all := fractions()
	var lists []api.Nat
	for _, x := range all {
		lists = append(lists, x.Num, x.Den)
	}
	kept := clones(lists)
	for _, x := range all {
		for _, y := range all {
			checkFractions(t, x, y)
		}
	}
	for i := range lists {
		wantNat(t, "an argument", lists[i], kept[i])
	}
}

func TestArithmeticOfSmallFractions(t *testing.T) {
	var all []api.Ratio
	for a := range int64(9) {
		for b := int64(1); b < 9; b++ {
			all = append(all, fractionOf(big.NewRat(a, b)))
		}
	}
	for _, x := range all {
		for _, y := range all {
			checkFractions(t, x, y)
		}
	}
}

// TestFractionsThatAreShortInLowestTerms has sums and products of which only the lowest terms are short enough.
func TestFractionsThatAreShortInLowestTerms(t *testing.T) {
	r := rand.New(rand.NewSource(6))
	for _, n := range []int{33, 40, 63, 64} {
		common := some(r, n)
		common[0] |= 1
		part := func(num, den int64) api.Ratio {
			return fractionOf(new(big.Rat).Mul(big.NewRat(num, den), new(big.Rat).SetFrac(big.NewInt(1), whole(common))))
		}
		x, y := part(1, 1), part(2, 1)
		checkFractions(t, x, y)
		turned := api.Ratio{Num: x.Den, Den: x.Num}
		got, e := Mul(x, turned)
		wantRatio(t, "a fraction times its inverse", got, api.Ratio{Num: api.Nat{1}, Den: api.Nat{1}})
		want(t, "the error of Mul", e, api.OK)
		got, e = Add(x, x)
		wantQuotient(t, "a fraction twice", got, e, new(big.Rat).Add(quotient(x), quotient(x)))
		want(t, "the error of Add", e, api.OK)
	}
}

func TestFractionsAtTheLimit(t *testing.T) {
	one := api.Nat{1}
	half := api.Ratio{Num: one, Den: api.Nat{2}}
	two := api.Ratio{Num: api.Nat{2}, Den: one}
	long := api.Ratio{Num: ones(64), Den: one}
	short := api.Ratio{Num: one, Den: ones(64)}
	for _, c := range []struct{ x, y api.Ratio }{
		{long, api.Ratio{Den: one}}, {long, api.Ratio{Num: one, Den: one}}, {long, half}, {long, two}, {long, long}, {long, short},
		{short, half}, {short, two}, {short, short}, {short, long}, {half, short}, {two, long},
		{api.Ratio{Num: bit(2047), Den: one}, api.Ratio{Num: bit(2047), Den: one}},
		{api.Ratio{Num: bit(2047), Den: one}, half}, {api.Ratio{Num: one, Den: bit(2047)}, half}, {api.Ratio{Num: one, Den: bit(2046)}, half},
		{api.Ratio{Num: one, Den: bit(2047)}, two}, {api.Ratio{Num: api.Nat{3}, Den: bit(2047)}, api.Ratio{Num: api.Nat{5}, Den: bit(2047)}},
	} {
		checkFractions(t, c.x, c.y)
	}
	_, e := Mul(short, half)
	want(t, "the error of a Den that is too long", e, api.ErrLimit)
	_, e = Mul(long, two)
	want(t, "the error of a Num that is too long", e, api.ErrLimit)
}

func TestPower(t *testing.T) {
	for _, x := range append(fractions(), fractionOf(big.NewRat(2, 3)), fractionOf(big.NewRat(5, 1)), fractionOf(big.NewRat(1, 5)), fractionOf(big.NewRat(7, 97))) {
		for _, n := range []int{0, 1, 2, 3, 4, 5, 6, 7, 8, 63, 64, 65, 127, 682, 683, 999, 1000} {
			got, e := Power(x, n)
			m := big.NewInt(int64(n))
			if max(len(x.Num), len(x.Den)) > 2 && n > 64 {
				wantNoRatio(t, "a power that is too long", got, e, api.ErrLimit)
				continue
			}
			num, den := new(big.Int).Exp(whole(x.Num), m, nil), new(big.Int).Exp(whole(x.Den), m, nil)
			wantQuotient(t, "Power "+strconv.Itoa(n)+" of "+quotient(x).String(), got, e, new(big.Rat).SetFrac(num, den))
		}
	}
}

func TestPowersAtTheLimit(t *testing.T) {
	of := func(num, den int64) api.Ratio { return fractionOf(big.NewRat(num, den)) }
	for _, c := range []struct {
		x      api.Ratio
		n      int
		wanted api.Errno
	}{
		{of(8, 1), 682, api.OK}, {of(8, 1), 683, api.ErrLimit}, {of(1, 8), 682, api.OK}, {of(1, 8), 683, api.ErrLimit}, {of(8, 1), 1000, api.ErrLimit},
		{of(2, 1), 1000, api.OK}, {of(4, 1), 1000, api.OK}, {of(4, 3), 1000, api.OK}, {of(5, 1), 1000, api.ErrLimit}, {of(1, 5), 1000, api.ErrLimit},
		{of(0, 1), 0, api.OK}, {of(0, 1), 1000, api.OK}, {of(1, 1), 1000, api.OK},
		{api.Ratio{Num: ones(64), Den: api.Nat{1}}, 0, api.OK}, {api.Ratio{Num: ones(64), Den: api.Nat{1}}, 1, api.OK}, {api.Ratio{Num: ones(64), Den: api.Nat{1}}, 2, api.ErrLimit},
		{api.Ratio{Num: ones(32), Den: api.Nat{1}}, 2, api.OK}, {api.Ratio{Num: bit(1024), Den: api.Nat{1}}, 2, api.ErrLimit}, {api.Ratio{Num: ones(64), Den: api.Nat{1}}, 1000, api.ErrLimit},
	} {
		got, e := Power(c.x, c.n)
		what := "Power " + strconv.Itoa(c.n) + " of " + quotient(c.x).String()
		want(t, "the error of "+what, e, c.wanted)
		want(t, "whether there is a "+what, Valid(got), c.wanted == api.OK)
		if c.wanted != api.OK {
			wantRatio(t, what, got, api.Ratio{})
		}
	}
}

func TestPowerOfOtherExponents(t *testing.T) {
	for _, n := range []int{-1, -2, -1000, 1001, 1002, 2000, 1 << 16, 1 << 32, 1<<32 + 1, math.MinInt, math.MinInt + 1, math.MaxInt} {
		for _, x := range fractions() {
			got, e := Power(x, n)
			wantNoRatio(t, "Power "+strconv.Itoa(n), got, e, api.ErrRange)
		}
		for _, x := range noFractions() {
			got, e := Power(x, n)
			wantNoRatio(t, "Power "+strconv.Itoa(n)+" of no fraction", got, e, api.ErrArg)
		}
	}
}

func TestArithmeticOfNoFractions(t *testing.T) {
	one := api.Ratio{Num: api.Nat{1}, Den: api.Nat{1}}
	for _, x := range noFractions() {
		for _, y := range append(noFractions()[:16], api.Ratio{Den: api.Nat{1}}, one, api.Ratio{Num: ones(64), Den: api.Nat{1}}) {
			for range 2 { // in both orders
				got, e := Add(x, y)
				wantNoRatio(t, "Add", got, e, api.ErrArg)
				got, e = Mul(x, y)
				wantNoRatio(t, "Mul", got, e, api.ErrArg)
				want(t, "Order", Order(x, y), 0)
				x, y = y, x
			}
		}
		for _, n := range []int{0, 1, 2, 1000} {
			got, e := Power(x, n)
			wantNoRatio(t, "Power", got, e, api.ErrArg)
		}
	}
}

func TestResultsOfFractionsShareNoMemory(t *testing.T) {
	one := api.Ratio{Num: api.Nat{1}, Den: api.Nat{1}}
	for _, x := range append(fractions(), one) {
		for _, y := range []api.Ratio{one, {Den: api.Nat{1}}, x, {Num: x.Den, Den: api.Nat{1}}} {
			args := []api.Nat{x.Num, x.Den, y.Num, y.Den}
			if len(y.Num) == 0 || &y.Num[0] == &x.Den[0] || len(x.Num) > 0 && &y.Num[0] == &x.Num[0] {
				args = args[:2] // the same memory twice
			}
			for _, f := range []func(x, y api.Ratio) (api.Ratio, api.Errno){Add, Mul} {
				got, _ := f(x, y)
				wantApart(t, "Add or Mul", args, []api.Nat{got.Num, got.Den})
				got, _ = f(y, x)
				wantApart(t, "Add or Mul", args, []api.Nat{got.Num, got.Den})
			}
		}
		for _, n := range []int{0, 1, 2, 3} {
			got, _ := Power(x, n)
			wantApart(t, "Power", []api.Nat{x.Num, x.Den}, []api.Nat{got.Num, got.Den})
		}
		got, _ := New(x.Num, x.Den)
		wantApart(t, "New", []api.Nat{x.Num, x.Den}, []api.Nat{got.Num, got.Den})
		got, _ = New(x.Den, x.Den)
		wantApart(t, "New of a number and itself", []api.Nat{x.Num, x.Den}, []api.Nat{got.Num, got.Den})
		got, _ = New(x.Num, api.Nat{1})
		wantApart(t, "New of a whole number", []api.Nat{x.Num, x.Den}, []api.Nat{got.Num, got.Den})
	}
}

// P2.6

func TestShowAndRead(t *testing.T) {
	for _, x := range fractions() {
		s := whole(x.Num).String() + "/" + whole(x.Den).String()
		want(t, "Show", Show(x), s)
		got, e := Read(s)
		wantRatio(t, "Read("+s+")", got, x)
		want(t, "the error of Read("+s+")", e, api.OK)
	}
	for _, x := range noFractions() {
		want(t, "Show of no fraction", Show(x), "")
	}
}

func TestReadOfOtherTerms(t *testing.T) {
	all := numbers()
	for i, a := range all {
		for j, b := range all {
			if (i+j)%3 != 0 || len(b) == 0 {
				continue
			}
			got, e := Read(whole(a).String() + "/" + whole(b).String())
			wantQuotient(t, "Read", got, e, new(big.Rat).SetFrac(whole(a), whole(b)))
		}
	}
}

func TestReadOfNoText(t *testing.T) {
	l := []string{"", "/", "1", "0", "12", "1/", "/1", "1//2", "1/2/3", "/1/2", "1/2/", "1\\2", "1:2", "1 / 2", " 1/2", "1/2 ", "1/2\n", "-1/2", "1/-2", "+1/2", "1/+2", "1|2", "1÷2", "1\u20442", "1\u22152", "½"}
	for _, s := range noTexts() {
		// A number that is too long and a Den 0 would be errors, too.
		l = append(l, s+"/1", "1/"+s, s+"/"+s, s+"/0", tooLong()[0]+"/"+s, s+"/"+tooLong()[0])
	}
	for _, s := range l {
		got, e := Read(s)
		wantNoRatio(t, "Read("+strconv.Quote(s)+")", got, e, api.ErrSyntax)
	}
}

func TestReadAtTheLimit(t *testing.T) {
	for _, s := range tooLong() {
		for _, x := range []string{s + "/1", "1/" + s, s + "/" + s, s + "/0", "0/" + s} {
			got, e := Read(x)
			wantNoRatio(t, "Read of a text of "+strconv.Itoa(len(x)), got, e, api.ErrLimit)
		}
	}
	for _, s := range []string{"0/0", "1/0", "2/0", whole(ones(64)).String() + "/0"} {
		got, e := Read(s)
		wantNoRatio(t, "Read("+s+")", got, e, api.ErrRange)
	}
}

// P2.7

func TestLawsOfNumbers(t *testing.T) {
	r := rand.New(rand.NewSource(7))
	do := func(f func(a, b api.Nat) (api.Nat, api.Errno), a, b api.Nat) api.Nat {
		t.Helper()
		c, e := f(a, b)
		want(t, "an error", e, api.OK)
		return c
	}
	for range 500 {
		a, b, c := some(r, r.Intn(21)), some(r, r.Intn(21)), some(r, r.Intn(21))
		wantNat(t, "a + b", do(Sum, a, b), do(Sum, b, a))
		wantNat(t, "a b", do(Product, a, b), do(Product, b, a))
		wantNat(t, "(a + b) + c", do(Sum, do(Sum, a, b), c), do(Sum, a, do(Sum, b, c)))
		wantNat(t, "(a b) c", do(Product, do(Product, a, b), c), do(Product, a, do(Product, b, c)))
		wantNat(t, "a (b + c)", do(Product, a, do(Sum, b, c)), do(Sum, do(Product, a, b), do(Product, a, c)))
		wantNat(t, "a + 0", do(Sum, a, nil), a)
		wantNat(t, "a 1", do(Product, a, api.Nat{1}), a)
		wantNat(t, "a 0", do(Product, a, nil), nil)
		wantNat(t, "a + b - b", do(Diff, do(Sum, a, b), b), a)
		wantNat(t, "the Gcd", Gcd(a, b), Gcd(b, a))
		if len(b) == 0 {
			continue
		}
		q, rest, e := Quotient(a, b)
		want(t, "the error of Quotient", e, api.OK)
		want(t, "whether the remainder is less", Compare(rest, b), -1)
		wantNat(t, "q b + r", do(Sum, do(Product, q, b), rest), a)
	}
}

func TestLawsOfFractions(t *testing.T) {
	r := rand.New(rand.NewSource(8))
	next := func() api.Ratio {
		x, e := New(some(r, r.Intn(9)), some(r, 1+r.Intn(8)))
		want(t, "the error of New", e, api.OK)
		return x
	}
	do := func(f func(x, y api.Ratio) (api.Ratio, api.Errno), x, y api.Ratio) api.Ratio {
		t.Helper()
		z, e := f(x, y)
		want(t, "an error", e, api.OK)
		want(t, "whether a result is valid", Valid(z), true)
		return z
	}
	for range 200 {
		x, y, z := next(), next(), next()
		wantRatio(t, "x + y", do(Add, x, y), do(Add, y, x))
		wantRatio(t, "x y", do(Mul, x, y), do(Mul, y, x))
		wantRatio(t, "(x + y) + z", do(Add, do(Add, x, y), z), do(Add, x, do(Add, y, z)))
		wantRatio(t, "(x y) z", do(Mul, do(Mul, x, y), z), do(Mul, x, do(Mul, y, z)))
		wantRatio(t, "x (y + z)", do(Mul, x, do(Add, y, z)), do(Add, do(Mul, x, y), do(Mul, x, z)))
		want(t, "Order", Order(x, y), -Order(y, x))
		want(t, "Order of x and x", Order(x, x), 0)
		back, e := Read(Show(x))
		wantRatio(t, "Read of Show", back, x)
		want(t, "the error of Read", e, api.OK)
	}
}

func TestEqualArgumentsGiveEqualResults(t *testing.T) {
	a, b := api.Nat{limb, 7, 1}, append(make(api.Nat, 0, 50), limb, 7, 1)
	for range 3 {
		for _, x := range []api.Nat{a, b} {
			q, r, e := Quotient(x, api.Nat{9, 1})
			p, s, f := Quotient(slices.Clone(x), api.Nat{9, 1})
			wantNat(t, "the quotient", q, p)
			wantNat(t, "the remainder", r, s)
			want(t, "the error", e, f)
			want(t, "Text", Text(x), Text(a))
		}
	}
	zero, empty := api.Ratio{Den: api.Nat{1}}, api.Ratio{Num: api.Nat{}, Den: api.Nat{1}}
	want(t, "Show of a Num nil and a Num without limbs", Show(zero), Show(empty))
	want(t, "Order of the two", Order(zero, empty), 0)
	want(t, "Valid of an empty Den", Valid(api.Ratio{Num: api.Nat{1}, Den: api.Nat{}}), false)
}

// The examples of the chapter

func TestExamplesOfNumbers(t *testing.T) {
	wantNat(t, "Nat(0)", Nat(0), api.Nat{})
	wantNat(t, "Nat(4294967296)", Nat(4294967296), api.Nat{0, 1})
	n, ok := Value(api.Nat{5, 0})
	want(t, "Value(5 0)", n, 0)
	want(t, "the bool of Value(5 0)", ok, false)
	a, e := Sum(api.Nat{4294967295}, api.Nat{1})
	wantResult(t, "Sum(4294967295, 1)", a, e, whole(api.Nat{0, 1}))
	a, e = Diff(api.Nat{0, 1}, api.Nat{1})
	wantResult(t, "Diff(0 1, 1)", a, e, big.NewInt(4294967295))
	a, e = Diff(api.Nat{3}, api.Nat{4})
	wantNat(t, "Diff(3, 4)", a, nil)
	want(t, "the error of Diff(3, 4)", e, api.ErrRange)
	a, e = Product(api.Nat{0, 1}, api.Nat{0, 1})
	wantResult(t, "Product(0 1, 0 1)", a, e, whole(api.Nat{0, 0, 1}))
	q, r, e := Quotient(api.Nat{0, 0, 1}, api.Nat{10})
	wantResult(t, "the quotient of 2^64 and 10", q, e, big.NewInt(1844674407370955161))
	wantResult(t, "the remainder of 2^64 and 10", r, e, big.NewInt(6))
	wantNat(t, "Gcd(12, 18)", Gcd(api.Nat{12}, api.Nat{18}), api.Nat{6})
	wantNat(t, "Gcd(0, 7)", Gcd(nil, api.Nat{7}), api.Nat{7})
	want(t, "Text(0 0 1)", Text(api.Nat{0, 0, 1}), "18446744073709551616")
	for _, s := range []string{"007", "", "12a"} {
		a, e := Parse(s)
		wantNat(t, "Parse("+s+")", a, nil)
		want(t, "the error of Parse("+s+")", e, api.ErrSyntax)
	}
}

func TestExamplesOfFractions(t *testing.T) {
	of := func(num, den uint64) api.Ratio {
		x, e := Of(num, den)
		want(t, "the error of Of", e, api.OK)
		return x
	}
	show := func(what string, x api.Ratio, e api.Errno, wanted string) {
		t.Helper()
		want(t, what, Show(x), wanted)
		want(t, "the error of "+what, e, api.OK)
	}
	want(t, "Of(6, 8)", Show(of(6, 8)), "3/4")
	want(t, "Of(0, 5)", Show(of(0, 5)), "0/1")
	x, e := Of(1, 0)
	wantNoRatio(t, "Of(1, 0)", x, e, api.ErrRange)
	x, e = Add(of(1, 6), of(1, 3))
	show("Add(1/6, 1/3)", x, e, "1/2")
	x, e = Mul(of(2, 3), of(3, 4))
	show("Mul(2/3, 3/4)", x, e, "1/2")
	x, e = Power(of(2, 3), 3)
	show("Power(2/3, 3)", x, e, "8/27")
	x, e = Power(of(2, 3), -1)
	wantNoRatio(t, "Power(2/3, -1)", x, e, api.ErrRange)
	want(t, "Order(1/3, 2/5)", Order(of(1, 3), of(2, 5)), -1)
	want(t, "Show(28/97)", Show(of(28, 97)), "28/97")
	x, e = Read("4/8")
	show("Read(4/8)", x, e, "1/2")
	x, e = Read("4/08")
	wantNoRatio(t, "Read(4/08)", x, e, api.ErrSyntax)
	x, e = Read("1/0")
	wantNoRatio(t, "Read(1/0)", x, e, api.ErrRange)
}
