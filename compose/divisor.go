package compose

import (
	"attestor/api"
	"attestor/field"
)

// Divisor returns the divisor of the rows of a rule at x.
func Divisor(f, rows int, on api.On, x uint64) (uint64, api.Errno) {
	if !areRows(f, rows) || on < api.OnAll || on > api.OnLast {
		return 0, api.ErrArg
	}
	return domain{f, rows}.divisor(on)(x), api.OK
}

// areRows reports whether there is a field, and systems in it with 2^rows rows.
func areRows(f, rows int) bool {
	return field.Valid(f) && rows >= 1 && rows <= min(api.MaxRows, field.Twos(f))
}

// A domain is the points of the rows: the powers of the root of the order 2^rows.
type domain struct{ field, rows int }

// power returns x to the power of the number of rows.
func (d domain) power(x uint64) uint64 {
	for range d.rows {
		x = field.Mul(d.field, x, x)
	}
	return x
}

// divisor returns the function that computes a divisor.
func (d domain) divisor(on api.On) func(x uint64) uint64 {
	root := field.Root(d.field, d.rows)
	last := field.Inv(d.field, root)
	all := func(x uint64) uint64 { return field.Sub(d.field, d.power(x), 1) }
	fromLast := func(x uint64) uint64 { return field.Sub(d.field, x, last) }
	switch on {
	case api.OnAll:
		return all
	case api.OnFirst:
		return func(x uint64) uint64 { return field.Sub(d.field, x, 1) }
	case api.OnLast:
		return fromLast
	}
	return func(x uint64) uint64 {
		if rest := fromLast(x); rest != 0 {
			return field.Div(d.field, all(x), rest)
		}
		// The quotient of X^n - 1 and X - x has at x the value of the derivative, which is n x^(n-1): as x is last, and x^n is 1, that is n root.
		return field.Mul(d.field, 1<<d.rows, root)
	}
}
