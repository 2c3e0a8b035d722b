package ratio

import (
	"slices"

	"attestor/api"
)

// ValidNat reports whether a natural number is valid.
func ValidNat(a api.Nat) bool {
	return len(a) <= api.MaxLimbs && (len(a) == 0 || a[len(a)-1] != 0)
}

// Nat returns a natural number.
func Nat(n uint64) api.Nat { return trim(api.Nat{uint32(n), uint32(n >> 32)}) }

// Value returns a natural number as a uint64, and false if it is not valid or does not fit.
func Value(a api.Nat) (uint64, bool) {
	if !ValidNat(a) || len(a) > 2 {
		return 0, false
	}
	return number(a), true
}

// Compare compares two natural numbers; it returns 0 if one of them is not valid.
func Compare(a, b api.Nat) int {
	if !validNats(a, b) {
		return 0
	}
	return compare(a, b)
}

// Sum returns the sum.
func Sum(a, b api.Nat) (api.Nat, api.Errno) {
	if !validNats(a, b) {
		return nil, api.ErrArg
	}
	return limited(sum(a, b))
}

// Diff returns the difference.
func Diff(a, b api.Nat) (api.Nat, api.Errno) {
	if !validNats(a, b) {
		return nil, api.ErrArg
	}
	if compare(a, b) < 0 {
		return nil, api.ErrRange
	}
	return diff(a, b), api.OK
}

// Product returns the product.
func Product(a, b api.Nat) (api.Nat, api.Errno) {
	if !validNats(a, b) {
		return nil, api.ErrArg
	}
	return limited(product(a, b))
}

// Quotient returns the quotient and the remainder.
func Quotient(a, b api.Nat) (q, r api.Nat, e api.Errno) {
	if !validNats(a, b) {
		return nil, nil, api.ErrArg
	}
	if len(b) == 0 {
		return nil, nil, api.ErrRange
	}
	q, r = divide(a, b)
	return q, r, api.OK
}

// Gcd returns the greatest common divisor; it returns 0 if one of the numbers is not valid.
func Gcd(a, b api.Nat) api.Nat {
	if !validNats(a, b) {
		return nil
	}
	return gcd(a, b)
}

// validNats reports whether both numbers are valid.
func validNats(a, b api.Nat) bool { return ValidNat(a) && ValidNat(b) }

// limited returns the number, or an error if it has too many limbs.
func limited(a api.Nat) (api.Nat, api.Errno) {
	if len(a) > api.MaxLimbs {
		return nil, api.ErrLimit
	}
	return a, api.OK
}

// Text returns the decimal digits of a natural number, and the empty text if it is not valid.
func Text(a api.Nat) string {
	if !ValidNat(a) {
		return ""
	}
	var digits []byte // the last one first
	write := func(n uint64, least int) {
		for i := 0; i < least || n > 0; i++ {
			digits = append(digits, '0'+byte(n%10))
			n /= 10
		}
	}
	for {
		q, r := divide(a, api.Nat{1000000000})
		if len(q) == 0 {
			write(number(r), 1)
			break
		}
		write(number(r), 9)
		a = q
	}
	slices.Reverse(digits)
	return string(digits)
}

// Parse reads a natural number.
func Parse(s string) (api.Nat, api.Errno) {
	if !isText(s) {
		return nil, api.ErrSyntax
	}
	var a api.Nat
	// A number does not become less by further digits, so that a text that is too long costs no more than one that is not.
	for i := 0; i < len(s) && len(a) <= api.MaxLimbs; i++ {
		a = sum(product(a, api.Nat{10}), Nat(uint64(s[i]-'0')))
	}
	return limited(a)
}

// isText reports whether s is the text of a natural number, of any size.
func isText(s string) bool {
	for i := range len(s) {
		if s[i] < '0' || s[i] > '9' {
			return false
		}
	}
	return s == "0" || s != "" && s[0] != '0'
}
