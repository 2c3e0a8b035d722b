package compose

import (
	"math/rand"
	"slices"
	"testing"

	"attestor/api"
)

// P15.2 (Divisor)

// wantDivisor reports a divisor that is not the one that is wanted, and wantNoDivisor one of nothing.
func wantDivisor(t *testing.T, field, rows int, on api.On, x, wanted uint64) {
	t.Helper()
	if got, e := Divisor(field, rows, on, x); got != wanted || e != api.OK {
		t.Errorf("Divisor(%d, %d, %d, %d) is %d, %d, not %d", field, rows, on, x, got, e, wanted)
	}
}

func wantNoDivisor(t *testing.T, field, rows int, on api.On) {
	t.Helper()
	for _, x := range []uint64{0, 1, 5, 96, greatest} {
		if got, e := Divisor(field, rows, on, x); got != 0 || e != api.ErrArg {
			t.Errorf("Divisor(%d, %d, %d, %d) is %d, %d", field, rows, on, x, got, e)
		}
	}
}

// TestDivisorAtAllElements: in the small fields.
func TestDivisorAtAllElements(t *testing.T) {
	for field := range 2 {
		for rows := 1; rows <= twos[field]; rows++ {
			for _, on := range ons {
				for x := range primes[field] {
					wantDivisor(t, field, rows, on, x, divisorOf(field, rows, on, x))
				}
			}
		}
	}
}

func TestDivisor(t *testing.T) {
	r := rand.New(rand.NewSource(264))
	for field, prime := range primes {
		for rows := 1; rows <= min(9, twos[field]); rows++ {
			for _, on := range ons {
				for _, x := range append(list(r, 3, prime), 0, 1, 2, prime-1, prime-2, generators[field]) {
					wantDivisor(t, field, rows, on, x, divisorOf(field, rows, on, x))
				}
			}
		}
	}
}

// TestDivisorInRows: at the points of rows. It is 0 just for the rows in which the constraint is asked.
func TestDivisorInRows(t *testing.T) {
	for field := range primes {
		for rows := 1; rows <= min(6, twos[field]); rows++ {
			for _, on := range ons {
				for row := range 1 << rows {
					x := point(field, rows, row)
					wantDivisor(t, field, rows, on, x, divisorOf(field, rows, on, x))
					d, _ := Divisor(field, rows, on, x)
					want(t, "whether the divisor is 0", d == 0, slices.Contains(asked(rows, on), row))
				}
			}
		}
	}
}

func TestDivisorOfTheGreatestRows(t *testing.T) {
	for field := 2; field < 4; field++ {
		rows := min(13, twos[field])
		for _, on := range ons {
			for _, x := range []uint64{0, 5, 1, point(field, rows, 77), point(field, rows, 1<<rows-2), point(field, rows, 1<<rows-1)} {
				wantDivisor(t, field, rows, on, x, divisorOf(field, rows, on, x))
			}
		}
	}
}

func TestDivisorCountsModuloP(t *testing.T) {
	for field, prime := range primes {
		for _, on := range ons {
			for _, x := range []uint64{0, 1, 2, 5, prime - 1, point(field, 3, 7), point(field, 3, 6)} {
				wanted := divisorOf(field, 3, on, x)
				wantDivisor(t, field, 3, on, x+prime, wanted)
				wantDivisor(t, field, 3, on, (greatest-x)/prime*prime+x, wanted)
			}
		}
	}
}

func TestNoDivisor(t *testing.T) {
	for _, on := range ons {
		for _, field := range noFields {
			wantNoDivisor(t, field, 1, on)
		}
		for field := range primes {
			for _, rows := range noRows(field) {
				wantNoDivisor(t, field, rows, on)
			}
		}
	}
	for field := range primes {
		for _, on := range []api.On{api.OnNone, 5, 6, 7, 128, 255} {
			wantNoDivisor(t, field, 1, on)
			wantNoDivisor(t, field, 4, on)
		}
	}
}
