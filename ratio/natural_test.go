package ratio

import (
	"math/big"
	"math/rand"
	"slices"
	"strconv"
	"strings"
	"testing"

	"attestor/api"
)

// P2.1

func TestValidNat(t *testing.T) {
	for _, a := range numbers() {
		want(t, "ValidNat of "+whole(a).String(), ValidNat(a), true)
	}
	want(t, "ValidNat of an empty list", ValidNat(api.Nat{}), true)
	want(t, "ValidNat of zeros below the last limb", ValidNat(append(make(api.Nat, 63), 1)), true)
	for _, a := range invalid() {
		want(t, "ValidNat of "+strconv.Itoa(len(a))+" limbs", ValidNat(a), false)
	}
}

func TestNatAndValue(t *testing.T) {
	l := []uint64{0, 1, 2, 9, 10, 1<<31 - 1, 1 << 31, limb - 1, limb, 1 << 32, 1<<32 + 1, 1<<33 - 1, 5 << 32, 1<<63 - 1, 1 << 63, greatest - 1, greatest}
	r := rand.New(rand.NewSource(1))
	for range 100 {
		l = append(l, r.Uint64()>>r.Intn(64))
	}
	for _, n := range l {
		a := Nat(n)
		wantNat(t, "Nat", a, natural(new(big.Int).SetUint64(n)))
		got, ok := Value(a)
		want(t, "Value", got, n)
		want(t, "the bool of Value", ok, true)
	}
}

func TestValueOfWhatDoesNotFit(t *testing.T) {
	l := append(invalid(), api.Nat{0, 0, 1}, api.Nat{1, 1, 1}, api.Nat{limb, limb, limb}, ones(64), bit(2047))
	for _, a := range l {
		got, ok := Value(a)
		want(t, "Value", got, 0)
		want(t, "the bool of Value", ok, false)
	}
	for _, a := range numbers() {
		x := whole(a)
		got, ok := Value(a)
		want(t, "the bool of Value", ok, x.IsUint64())
		if ok {
			want(t, "Value", got, x.Uint64())
		}
	}
}

func TestCompare(t *testing.T) {
	all := numbers()
	for _, a := range all {
		for _, b := range all {
			want(t, "Compare", Compare(a, b), whole(a).Cmp(whole(b)))
		}
		want(t, "Compare with a copy", Compare(a, slices.Clone(a)), 0)
	}
	want(t, "Compare of numbers that differ in the lowest limb", Compare(api.Nat{1, 7, 7}, api.Nat{2, 7, 7}), -1)
	want(t, "Compare of numbers that differ in the highest limb", Compare(api.Nat{9, 9, 7}, api.Nat{0, 0, 8}), -1)
	want(t, "Compare of a greater limb and a longer list", Compare(api.Nat{limb}, api.Nat{0, 1}), -1)
	want(t, "Compare of nil and the empty list", Compare(nil, api.Nat{}), 0)
}

func TestCompareOfNoNumbers(t *testing.T) {
	for _, a := range invalid() {
		for _, b := range append(invalid(), nil, api.Nat{1}, ones(64)) {
			want(t, "Compare", Compare(a, b), 0)
			want(t, "Compare", Compare(b, a), 0)
		}
	}
}

// P2.2

// checkPair compares what the program computes of two numbers with what math/big does.
func checkPair(t *testing.T, a, b api.Nat) {
	t.Helper()
	x, y := whole(a), whole(b)
	got, e := Sum(a, b)
	wantResult(t, "Sum", got, e, new(big.Int).Add(x, y))
	got, e = Product(a, b)
	wantResult(t, "Product", got, e, new(big.Int).Mul(x, y))
	got, e = Diff(a, b)
	if x.Cmp(y) < 0 {
		wantNat(t, "Diff of a lesser number", got, nil)
		want(t, "the error of Diff", e, api.ErrRange)
	} else {
		wantResult(t, "Diff", got, e, new(big.Int).Sub(x, y))
	}
	q, r, e := Quotient(a, b)
	if y.Sign() == 0 {
		wantNat(t, "a quotient by 0", q, nil)
		wantNat(t, "a remainder by 0", r, nil)
		want(t, "the error of Quotient", e, api.ErrRange)
	} else {
		div, mod := new(big.Int).DivMod(x, y, new(big.Int))
		wantResult(t, "the quotient", q, e, div)
		wantResult(t, "the remainder", r, e, mod)
	}
	wantNat(t, "Gcd", Gcd(a, b), natural(new(big.Int).GCD(nil, nil, x, y)))
}

func TestArithmeticOfNumbers(t *testing.T) {
	all := numbers()
	kept := clones(all)
	for _, a := range all {
		for _, b := range all {
			checkPair(t, a, b)
		}
	}
	for i := range all {
		wantNat(t, "an argument", all[i], kept[i])
	}
}

func TestArithmeticOfEveryLength(t *testing.T) {
	r := rand.New(rand.NewSource(4))
	for range 3000 {
		checkPair(t, some(r, r.Intn(65)), some(r, r.Intn(65)))
	}
	for range 5000 {
		checkPair(t, some(r, r.Intn(6)), some(r, r.Intn(5)))
	}
}

// TestQuotientsThatAreGuessedTooHigh divides numbers that are just at, just below and well below a multiple of the divisor, with limbs for which the first guess of a limb is too high by 1 or by 2.
func TestQuotientsThatAreGuessedTooHigh(t *testing.T) {
	limbs := []uint32{0, 1, 2, 1<<31 - 1, 1 << 31, 1<<31 + 1, limb - 1, limb}
	for _, high := range limbs[1:] {
		for _, middle := range limbs {
			for _, low := range limbs {
				b := api.Nat{low, middle, high}
				for _, times := range []api.Nat{{limb}, {1 << 31}, {limb, limb}, {0, limb}, {limb, 0, 1}} {
					x := new(big.Int).Mul(whole(b), whole(times))
					for _, d := range []int64{-limb, -2, -1, 0, 1} {
						a := natural(new(big.Int).Add(x, big.NewInt(d)))
						checkPair(t, a, b)
						checkPair(t, a, api.Nat{middle, high})
					}
				}
			}
		}
	}
}

func TestResultsAtTheLimit(t *testing.T) {
	long, below := ones(64), natural(new(big.Int).Sub(whole(bit(2047)), big.NewInt(1)))
	for _, c := range []struct {
		what   string
		f      func(a, b api.Nat) (api.Nat, api.Errno)
		a, b   api.Nat
		wanted api.Errno
	}{
		{"the greatest number + 0", Sum, long, nil, api.OK},
		{"the greatest number + 1", Sum, long, api.Nat{1}, api.ErrLimit},
		{"2^2047 + 2^2047", Sum, bit(2047), bit(2047), api.ErrLimit},
		{"2^2047 + 2^2047 - 1", Sum, bit(2047), below, api.OK},
		{"2^1024 times 2^1023", Product, bit(1024), bit(1023), api.OK},
		{"2^1024 times 2^1024", Product, bit(1024), bit(1024), api.ErrLimit},
		{"the greatest number times 0", Product, long, nil, api.OK},
		{"the greatest number times 1", Product, long, api.Nat{1}, api.OK},
		{"the greatest number times 2", Product, long, api.Nat{2}, api.ErrLimit},
		{"the greatest number squared", Product, long, long, api.ErrLimit},
	} {
		got, e := c.f(c.a, c.b)
		want(t, "the error of "+c.what, e, c.wanted)
		other, e := c.f(c.b, c.a)
		want(t, "the error of "+c.what+" in the other order", e, c.wanted)
		wantNat(t, c.what+" in the other order", other, got)
		if c.wanted == api.ErrLimit {
			wantNat(t, c.what, got, nil)
		}
	}
}

func TestArithmeticOfNoNumbers(t *testing.T) {
	check := func(a, b api.Nat) {
		t.Helper()
		for what, f := range map[string]func(a, b api.Nat) (api.Nat, api.Errno){"Sum": Sum, "Diff": Diff, "Product": Product} {
			got, e := f(a, b)
			wantNat(t, what, got, nil)
			want(t, "the error of "+what, e, api.ErrArg)
		}
		q, r, e := Quotient(a, b)
		wantNat(t, "the quotient", q, nil)
		wantNat(t, "the remainder", r, nil)
		want(t, "the error of Quotient", e, api.ErrArg)
		wantNat(t, "Gcd", Gcd(a, b), nil)
	}
	for _, a := range invalid() {
		// With nil, a lesser number or a divisor 0 would be an error, too; with ones, the length of the result.
		for _, b := range append(invalid(), nil, api.Nat{}, api.Nat{1}, api.Nat{5, 7}, ones(64)) {
			check(a, b)
			check(b, a)
		}
	}
}

func TestGcdWithZero(t *testing.T) {
	for _, a := range numbers() {
		wantNat(t, "Gcd(0, a)", Gcd(nil, a), a)
		wantNat(t, "Gcd(a, 0)", Gcd(a, api.Nat{}), a)
		wantNat(t, "Gcd(a, a)", Gcd(a, a), a)
		wantNat(t, "Gcd(1, a)", Gcd(api.Nat{1}, a), api.Nat{1})
	}
}

func TestResultsOfNumbersShareNoMemory(t *testing.T) {
	for _, a := range numbers() {
		for _, b := range []api.Nat{nil, {1}, {2}, {limb}, ones(2), bit(64), ones(63), ones(64), a} {
			for range 2 { // in both orders
				a, b := slices.Clone(a), slices.Clone(b)
				q, r, _ := Quotient(a, b)
				wantApart(t, "Quotient", []api.Nat{a, b}, []api.Nat{q, r})
				for what, f := range map[string]func(a, b api.Nat) (api.Nat, api.Errno){"Sum": Sum, "Diff": Diff, "Product": Product} {
					got, _ := f(a, b)
					wantApart(t, what, []api.Nat{a, b}, []api.Nat{got})
				}
				wantApart(t, "Gcd", []api.Nat{a, b}, []api.Nat{Gcd(a, b)})
				a, b = b, a
			}
		}
	}
	wantApart(t, "Nat", nil, []api.Nat{Nat(7), Nat(7), Nat(greatest), Nat(greatest)})
}

// P2.3

func TestTextAndParse(t *testing.T) {
	for _, a := range numbers() {
		s := whole(a).String()
		want(t, "Text", Text(a), s)
		got, e := Parse(s)
		wantNat(t, "Parse("+s+")", got, a)
		want(t, "the error of Parse("+s+")", e, api.OK)
	}
	r := rand.New(rand.NewSource(5))
	for n := range 65 {
		a := some(r, n)
		want(t, "Text", Text(a), whole(a).String())
		got, e := Parse(Text(a))
		wantNat(t, "Parse of Text", got, a)
		want(t, "the error of Parse", e, api.OK)
	}
	want(t, "Text of the empty list", Text(api.Nat{}), "0")
}

func TestTextOfNoNumber(t *testing.T) {
	for _, a := range invalid() {
		want(t, "Text", Text(a), "")
	}
}

// noTexts are texts that are those of no natural number.
func noTexts() []string {
	return []string{
		"", " ", "00", "01", "007", "000000", "0123456789", "-", "+", "-0", "-1", "+1", "1-", "1+1", " 1", "1 ", "1 2", "\t1", "1\n", "1\x00", "\x00", "\x001",
		"12a", "a", "a12", "1a2", "0a", "a0", "0x10", "1e3", "1.0", "1,000", "1_000", "1/", "/1", "1/2", ":", "1:", "/", "1;", "\"1\"",
		"\xff", "1\xff", "\u0661\u0662", "\uff11", "1\u0660", "\u00b2", "1\u00bd", "NaN", "Inf", "ten",
		strings.Repeat("0", 1000), "0" + strings.Repeat("9", 616), strings.Repeat("9", 5000) + "a", "a" + strings.Repeat("9", 5000),
		strings.Repeat("9", 2500) + " " + strings.Repeat("9", 2500), "-" + strings.Repeat("9", 5000), "0" + strings.Repeat("9", 5000),
	}
}

func TestParseOfNoText(t *testing.T) {
	for _, s := range noTexts() {
		got, e := Parse(s)
		wantNat(t, "Parse("+strconv.Quote(s)+")", got, nil)
		want(t, "the error of Parse("+strconv.Quote(s)+")", e, api.ErrSyntax)
	}
	for c := range 256 {
		if c >= '0' && c <= '9' {
			continue
		}
		for _, s := range []string{string([]byte{byte(c)}), string([]byte{'4', byte(c)}), string([]byte{byte(c), '4'})} {
			_, e := Parse(s)
			want(t, "the error of Parse("+strconv.Quote(s)+")", e, api.ErrSyntax)
		}
	}
}

// tooLong are texts of numbers that need more than MaxLimbs limbs.
func tooLong() []string {
	over := new(big.Int).Lsh(big.NewInt(1), 2048)
	return []string{
		over.String(), new(big.Int).Add(over, big.NewInt(1)).String(), strings.Repeat("9", 617), "1" + strings.Repeat("0", 617),
		strings.Repeat("9", 618), strings.Repeat("1", 5000), "1" + strings.Repeat("0", 3000000),
	}
}

func TestParseAtTheLimit(t *testing.T) {
	for _, s := range tooLong() {
		got, e := Parse(s)
		wantNat(t, "Parse of a text of "+strconv.Itoa(len(s)), got, nil)
		want(t, "the error of Parse", e, api.ErrLimit)
	}
	got, e := Parse(whole(ones(64)).String())
	wantNat(t, "Parse of the greatest number", got, ones(64))
	want(t, "the error of Parse", e, api.OK)
}
