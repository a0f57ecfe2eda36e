package leaves

import (
	"slices"

	"drowner/api"
)

// equation says of unknown words that their products with its words, one for each of them, are together its last word.
type equation []int

// solve returns words for which equations hold, if there are any, and any words otherwise. It writes into the equations.
func solve(l []equation, unknowns int) []int {
	var bound []int // for each of the first equations, the unknown word that it alone has
search:
	for u := range unknowns {
		first := len(bound)
		for i := first; i < len(l); i++ {
			if l[i][u] != 0 {
				l[first], l[i] = l[i], l[first]
				isolate(l, first, u)
				bound = append(bound, u)
				continue search
			}
		}
	}
	found := make([]int, unknowns) // those that the equations leave open stay 0
	for i, u := range bound {
		found[u] = l[i][unknowns]
	}
	return found
}

// isolate takes an unknown word out of all equations but one, in which it gets the factor 1.
func isolate(l []equation, only, u int) {
	l[only] = times(l[only], inverse(l[only][u]))
	for i, x := range l {
		if i == only {
			continue
		}
		by := api.Prime - x[u]
		for k, n := range l[only] {
			x[k] = (x[k] + by*n) % api.Prime
		}
	}
}

// through returns the polynomial with as many coefficients as there are points, whose X differ, that goes through all of them.
func through(l []api.Dot) []int {
	return solve(each(len(l), func(n int) equation { return append(firstPowers(l[n].X, len(l)), l[n].Y) }), len(l))
}

// nearest returns the polynomial that goes through so many points that beside its coefficients there are at least twice as many as it misses; there is at most one, and if there is none it returns any one. There are at least as many points as coefficients, and their X differ.
//
// If p is this polynomial, it misses few points at most, and there is a polynomial e whose value is 0 at each X that p misses, and whose greatest power is few, with the factor 1. The product q of both has at each X the value Y e(X). These are equations for the coefficients of q, and for those of e below its greatest power (with the sign changed, so that there are sums only). Whatever solves them, q is the product of p and e, as their values are equal at more X than they have coefficients; so p goes through each point at which e is not 0.
func nearest(l []api.Dot, coeffs int) []int {
	few := (len(l) - coeffs) / 2
	found := solve(each(len(l), func(n int) equation {
		x, y := l[n].X, l[n].Y
		return slices.Concat(firstPowers(x, coeffs+few), times(firstPowers(x, few+1), y))
	}), coeffs+2*few)
	e := slices.Concat(found[coeffs+few:], []int{api.Prime - 1})
	sure := slices.DeleteFunc(slices.Clone(l), func(d api.Dot) bool { return value(e, d.X) == 0 })
	return through(sure[:coeffs])
}
