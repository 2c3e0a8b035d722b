package code

import (
	"strconv"

	"attestor/api"
	"attestor/transform"
)

// fibre is the number of points of a fibre. A domain with fewer points has no fibres.
const fibre = 8

// Local returns the coefficients of the local polynomial in a fibre.
func Local(d api.Domain, v []uint64, i int) [8]uint64 {
	if !isOn(d, v) || i < 0 || i >= len(v)/fibre {
		return [fibre]uint64{}
	}
	return local(d.Field, Point(d, i), v, i)
}

// local returns the coefficients of the local polynomial in the fibre i, whose first point is x. From each of its points to the next one the factor is a root of the order 8, so that a fibre is a coset.
func local(f int, x uint64, v []uint64, i int) [fibre]uint64 {
	var values, out [fibre]uint64
	step := len(v) / fibre
	for j := range values {
		values[j] = v[i+j*step]
	}
	p, _ := transform.Coefficients(f, x, values[:]) // no error: there is a field, x is not 0, and every field has a root of the order 8
	copy(out[:], p)
	return out
}

// Agreement returns the greatest number of fibres with the same local polynomials.
func Agreement(d api.Domain, cols [][]uint64) int {
	if !isOn(d, cols...) {
		return 0
	}
	most := 0
	counts := map[string]int{}
	for i, x := range Points(d)[:Size(d)/fibre] {
		var text []byte
		for _, v := range cols {
			for _, c := range local(d.Field, x, v, i) {
				text = append(strconv.AppendUint(text, c, 10), ' ')
			}
		}
		key := string(text)
		counts[key]++
		most = max(most, counts[key])
	}
	return most
}
