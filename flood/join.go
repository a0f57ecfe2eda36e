package flood

import "drowner/api"

// Join returns the least sums of two curves whose steps are so many together.
func Join(f, g api.Curve) (api.Curve, api.Errno) {
	if e := check(f, g); e != api.OK {
		return api.Curve{}, e
	}
	return inRange(joined(f, g))
}

// joined returns two curves joined, also if a number is too great for a curve.
func joined(f, g api.Curve) api.Curve {
	return drawn(lastOf(f), func(t int) int {
		_, n := least(sums(f, g, 0, t))
		return n
	})
}

// Split returns at how many steps of the first curve a least sum is attained.
func Split(f, g api.Curve, step int) (int, api.Errno) {
	if e := check(f, g); e != api.OK {
		return 0, e
	}
	if !isStep(f, step) {
		return 0, api.ErrArg
	}
	s, _ := least(sums(f, g, 0, step))
	return s, api.OK
}

// Chain returns the curve of several reaches, one behind the other.
func Chain(l []api.Curve) (api.Curve, api.Errno) {
	if len(l) == 0 {
		return api.Curve{}, api.ErrArg
	}
	if len(l) > api.MaxChain {
		return api.Curve{}, api.ErrLimit
	}
	if e := check(l...); e != api.OK {
		return api.Curve{}, e
	}
	all := lower(l[0], l[0]) // a copy: the result is new memory, also of one curve
	for _, c := range l[1:] {
		all = joined(all, c)
		if !isInRange(all) {
			return api.Curve{}, api.ErrRange
		}
	}
	return all, api.OK
}

// Lead returns by how much one curve is ahead of another one at most, so many steps later.
func Lead(f, g api.Curve) (api.Curve, api.Errno) {
	if e := check(f, g); e != api.OK {
		return api.Curve{}, e
	}
	return lead(f, g), api.OK
}

func lead(f, g api.Curve) api.Curve {
	return drawn(lastOf(f), func(t int) int {
		ahead := 0
		for u, n := range f.V[t:] {
			ahead = max(ahead, n-g.V[u])
		}
		return ahead
	})
}

// Tightest returns the least curve that a course of water obeys.
func Tightest(a api.Curve) (api.Curve, api.Errno) {
	if e := check(a); e != api.OK {
		return api.Curve{}, e
	}
	return lead(a, a), api.OK
}
