package ratio

import (
	"cmp"
	"math"
	"math/bits"

	"attestor/api"
)

// The functions of this file take lists of any length without a 0 at the end, unless they say otherwise: the parts of a fraction may be longer than a result before they are in lowest terms.

// trim leaves out the zeros at the end. The number 0 is always nil, so that equal numbers are equal lists.
func trim(l api.Nat) api.Nat {
	n := len(l)
	for n > 0 && l[n-1] == 0 {
		n--
	}
	if n == 0 {
		return nil
	}
	return l[:n:n]
}

// copied returns the number of a list, which may have zeros at the end, in memory of its own.
func copied(l api.Nat) api.Nat {
	l = trim(l)
	if len(l) == 0 {
		return nil
	}
	out := make(api.Nat, len(l))
	copy(out, l)
	return out
}

// number returns a number of at most two limbs.
func number(a api.Nat) uint64 {
	n := uint64(0)
	for i, x := range a {
		n |= uint64(x) << (32 * i)
	}
	return n
}

// compare returns -1, 0 or 1 as a is less than, equal to or greater than b.
func compare(a, b api.Nat) int {
	if len(a) != len(b) {
		return cmp.Compare(len(a), len(b))
	}
	for i := len(a) - 1; i >= 0; i-- {
		if a[i] != b[i] {
			return cmp.Compare(a[i], b[i])
		}
	}
	return 0
}

// putOn adds n times d, which is not longer than part, to part, and reports whether part was too short for that. Here and in takeOff, n is below 2^32, so that no carry wraps around.
func putOn(part, d api.Nat, n uint64) bool {
	carry := uint64(0)
	for i := range part {
		carry += uint64(part[i])
		if i < len(d) {
			carry += n * uint64(d[i])
		}
		part[i] = uint32(carry)
		carry >>= 32
	}
	return carry > 0
}

// takeOff takes n times d, which is not longer than part, off part, and reports whether part was less than that.
func takeOff(part, d api.Nat, n uint64) bool {
	carry := uint64(0)
	for i := range part {
		if i < len(d) {
			carry += n * uint64(d[i])
		}
		low := uint32(carry)
		carry >>= 32
		if part[i] < low {
			carry++
		}
		part[i] -= low
	}
	return carry > 0
}

func sum(a, b api.Nat) api.Nat {
	out := make(api.Nat, max(len(a), len(b))+1)
	copy(out, a)
	putOn(out, b, 1)
	return trim(out)
}

// diff returns a - b, where b is not greater than a.
func diff(a, b api.Nat) api.Nat {
	out := copied(a)
	takeOff(out, b, 1)
	return trim(out)
}

// product multiplies into a list that has room for the longest product, and copies it: a result keeps no more memory than it needs.
func product(a, b api.Nat) api.Nat {
	list := make(api.Nat, len(a)+len(b))
	for i, x := range a {
		putOn(list[i:i+len(b)+1], b, uint64(x))
	}
	return copied(list)
}

// shifted returns a 2^by in one limb more than a has, where by is below 32.
func shifted(a api.Nat, by int) api.Nat {
	out := make(api.Nat, len(a)+1)
	putOn(out, a, 1<<by)
	return out
}

// shiftBack divides a list by 2^by, where by is below 32, and leaves out the rest.
func shiftBack(l api.Nat, by int) {
	for i := range l {
		l[i] >>= by
		if i+1 < len(l) {
			l[i] |= l[i+1] << (32 - by)
		}
	}
}

// divide returns the quotient and the remainder; b is not 0. It works as on paper, a limb of the quotient at a time, with both numbers shifted so that b starts with a bit 1: only then is the guess of a limb a good one.
func divide(a, b api.Nat) (q, r api.Nat) {
	n := len(b)
	if len(a) < n {
		return nil, copied(a)
	}
	by := bits.LeadingZeros32(b[n-1])
	d := shifted(b, by)[:n:n]
	rest := shifted(a, by)
	q = make(api.Nat, len(a)-n+1)
	for i := len(q) - 1; i >= 0; i-- {
		q[i] = takeAll(rest[i:i+n+1:i+n+1], d)
	}
	shiftBack(rest, by)
	return trim(q), copied(rest)
}

// takeAll takes d off part as often as it goes in, and returns how often. Part is less than 2^32 d and one limb longer than d, which starts with a bit 1. The guess from the first limbs is then not too low and at most 2 too high, so that d is put back twice at most.
func takeAll(part, d api.Nat) uint32 {
	n := len(d)
	first := uint64(part[n])<<32 | uint64(part[n-1])
	guess := min(first/uint64(d[n-1]), math.MaxUint32)
	below := takeOff(part, d, guess)
	for below {
		guess--
		below = !putOn(part, d, 1)
	}
	return uint32(guess)
}

// gcd returns the greatest common divisor.
func gcd(a, b api.Nat) api.Nat {
	for len(b) > 0 {
		if len(a) <= 2 && len(b) <= 2 {
			return Nat(smallGcd(number(a), number(b)))
		}
		_, r := divide(a, b)
		a, b = b, r
	}
	return copied(a)
}

// smallGcd is for the numbers of one machine word, to which most fractions soon come down.
func smallGcd(a, b uint64) uint64 {
	for b > 0 {
		a, b = b, a%b
	}
	return a
}
