package ratio

import (
	"math"
	"math/big"
	"math/rand"
	"slices"
	"testing"

	"attestor/api"
)

const (
	limb     = math.MaxUint32 // the greatest limb
	greatest = math.MaxUint64
)

// invalid are lists that are no natural numbers.
func invalid() []api.Nat {
	return []api.Nat{
		{0}, {0, 0}, {5, 0}, {1, 1, 0}, make(api.Nat, 64), append(ones(63), 0),
		ones(65), append(ones(64), 0), append(make(api.Nat, 64), 1), make(api.Nat, 65), ones(128), ones(1000),
	}
}

// ones returns the greatest number of n limbs.
func ones(n int) api.Nat { return slices.Repeat(api.Nat{limb}, n) }

// bit returns 2^n.
func bit(n int) api.Nat { return append(make(api.Nat, n/32), 1<<(n%32)) }

// whole and natural compute without the program.

func whole(a api.Nat) *big.Int {
	x := new(big.Int)
	for i := len(a) - 1; i >= 0; i-- {
		x.Lsh(x, 32).Or(x, big.NewInt(int64(a[i])))
	}
	return x
}

func natural(x *big.Int) api.Nat {
	var a api.Nat
	low := big.NewInt(limb)
	for x = new(big.Int).Set(x); x.Sign() > 0; x.Rsh(x, 32) {
		a = append(a, uint32(new(big.Int).And(x, low).Uint64()))
	}
	return a
}

// decimal returns the number of a text, without the program.
func decimal(s string) api.Nat {
	x, ok := new(big.Int).SetString(s, 10)
	if !ok {
		panic(s)
	}
	return natural(x)
}

func quotient(x api.Ratio) *big.Rat { return new(big.Rat).SetFrac(whole(x.Num), whole(x.Den)) }

func fractionOf(x *big.Rat) api.Ratio {
	return api.Ratio{Num: natural(x.Num()), Den: natural(x.Denom())}
}

// numbers returns numbers at which a computation could go wrong: 0, those around powers of 2 and of 10, those up to the greatest one; and some others, always the same ones.
func numbers() []api.Nat {
	l := []api.Nat{nil, {1}, {2}, {3}, {6}, {9}, {10}, {11}, {limb - 1}, {limb}, {1 << 31}, {1<<31 - 1}, ones(2), ones(3), ones(63), ones(64)}
	for _, n := range []int{31, 32, 33, 63, 64, 65, 95, 96, 128, 1000, 1023, 1024, 2016, 2046, 2047} {
		l = append(l, bit(n))
	}
	for _, n := range []int{32, 64, 96, 1024, 2047} {
		x := whole(bit(n))
		l = append(l, natural(new(big.Int).Sub(x, big.NewInt(1))), natural(new(big.Int).Add(x, big.NewInt(1))))
	}
	for _, n := range []int64{8, 9, 10, 18, 19, 20, 27, 616} {
		x := new(big.Int).Exp(big.NewInt(10), big.NewInt(n), nil)
		l = append(l, natural(new(big.Int).Sub(x, big.NewInt(1))), natural(x))
	}
	r := rand.New(rand.NewSource(2))
	for _, n := range []int{1, 1, 2, 2, 3, 4, 7, 21, 31, 32, 33, 62, 63, 64} {
		l = append(l, some(r, n))
	}
	return l
}

// some returns a number of n limbs, more often than by chance with limbs at which a carry could be lost.
func some(r *rand.Rand, n int) api.Nat {
	a := make(api.Nat, n)
	for i := range a {
		switch r.Intn(8) {
		case 0:
			a[i] = 0
		case 1:
			a[i] = 1
		case 2:
			a[i] = 1 << 31
		case 3:
			a[i] = limb
		case 4:
			a[i] = limb - 1
		default:
			a[i] = r.Uint32()
		}
	}
	if n > 0 && a[n-1] == 0 {
		a[n-1] = 1 << 31
	}
	return a
}

// fractions returns valid fractions, among them those with few and with the most limbs.
func fractions() []api.Ratio {
	l := []api.Ratio{{Den: api.Nat{1}}, {Num: api.Nat{1}, Den: api.Nat{1}}}
	r := rand.New(rand.NewSource(3))
	all := numbers()
	for _, a := range all[1:] {
		b := all[1+r.Intn(len(all)-1)]
		l = append(l, fractionOf(new(big.Rat).SetFrac(whole(a), whole(b))))
	}
	for range 12 {
		l = append(l, fractionOf(big.NewRat(int64(r.Intn(50)), int64(1+r.Intn(50)))))
	}
	return l
}

// noFractions are pairs of lists that are no valid fractions.
func noFractions() []api.Ratio {
	l := []api.Ratio{
		{}, {Num: api.Nat{1}}, {Num: api.Nat{5}}, {Den: api.Nat{2}}, {Den: ones(64)}, {Num: ones(64)},
		{Num: api.Nat{2}, Den: api.Nat{4}}, {Num: api.Nat{4}, Den: api.Nat{2}}, {Num: api.Nat{7}, Den: api.Nat{7}},
		{Num: bit(32), Den: bit(64)}, {Num: bit(2047), Den: api.Nat{2}}, {Num: ones(64), Den: ones(64)},
		{Num: natural(new(big.Int).Mul(whole(ones(31)), big.NewInt(1000003))), Den: natural(new(big.Int).Mul(whole(bit(900)), big.NewInt(1000003)))},
	}
	for _, a := range invalid() {
		l = append(l, api.Ratio{Num: a, Den: api.Nat{1}}, api.Ratio{Num: api.Nat{1}, Den: a}, api.Ratio{Num: a, Den: a}, api.Ratio{Den: a})
	}
	return l
}

// want reports a result that is not the one that is wanted.
func want[T comparable](t *testing.T, what string, got, wanted T) {
	t.Helper()
	if got != wanted {
		t.Errorf("%s is %v, not %v", what, got, wanted)
	}
}

func wantNat(t *testing.T, what string, got, wanted api.Nat) {
	t.Helper()
	if !slices.Equal(got, wanted) {
		t.Errorf("%s is %v, not %v", what, got, wanted)
	}
}

// wantResult reports a number, or an error, that is not the one that is wanted: ErrLimit if the number is too long.
func wantResult(t *testing.T, what string, got api.Nat, e api.Errno, wanted *big.Int) {
	t.Helper()
	if wanted.BitLen() > 32*api.MaxLimbs {
		wantNat(t, what+" (too long)", got, nil)
		want(t, "the error of "+what, e, api.ErrLimit)
		return
	}
	wantNat(t, what, got, natural(wanted))
	want(t, "the error of "+what, e, api.OK)
}

func wantRatio(t *testing.T, what string, got, wanted api.Ratio) {
	t.Helper()
	wantNat(t, "the Num of "+what, got.Num, wanted.Num)
	wantNat(t, "the Den of "+what, got.Den, wanted.Den)
}

// wantQuotient is wantResult for fractions.
func wantQuotient(t *testing.T, what string, got api.Ratio, e api.Errno, wanted *big.Rat) {
	t.Helper()
	if max(wanted.Num().BitLen(), wanted.Denom().BitLen()) > 32*api.MaxLimbs {
		wantNoRatio(t, what+" (too long)", got, e, api.ErrLimit)
		return
	}
	wantRatio(t, what, got, fractionOf(wanted))
	want(t, "the error of "+what, e, api.OK)
}

// wantNoRatio reports a result beside an error, or another error.
func wantNoRatio(t *testing.T, what string, got api.Ratio, e, wanted api.Errno) {
	t.Helper()
	wantRatio(t, what, got, api.Ratio{})
	want(t, "the error of "+what, e, wanted)
}

func clones(l []api.Nat) []api.Nat {
	out := make([]api.Nat, len(l))
	for i, a := range l {
		out[i] = slices.Clone(a)
	}
	return out
}

// wantApart overwrites each result, with the memory behind it, and reports if that changes an argument or another result.
func wantApart(t *testing.T, what string, args, results []api.Nat) {
	t.Helper()
	for i := range results {
		all := append(slices.Clone(args), results...)
		all[len(args)+i] = nil
		before := clones(all)
		kept := slices.Clone(results[i])
		mine := results[i][:cap(results[i])]
		for j := range mine {
			mine[j] ^= limb
		}
		for j := range all {
			wantNat(t, what+": a list beside a result that was changed", all[j], before[j])
		}
		copy(results[i], kept)
	}
}
