package flood

import "drowner/api"

// Obeys reports whether a course of water obeys a curve, and returns the first steps between which it does not.
func Obeys(a, limit api.Curve) (api.Span, bool, api.Errno) {
	if e := check(a, limit); e != api.OK {
		return api.Span{}, false, e
	}
	x, found := breach(a, limit)
	return x, !found, api.OK
}

// breach returns the first steps between which a course does not obey a limit, and whether there are such steps.
func breach(a, limit api.Curve) (api.Span, bool) {
	x, found := api.Span{}, false
search:
	for t, n := range a.V {
		for s, m := range a.V[:t] {
			if n-m > limit.V[t-s] {
				x, found = api.Span{Lo: s, Hi: t}, true
				break search
			}
		}
	}
	return x, found
}

// Close returns the least sums of a limit, for steps that are divided in any way.
func Close(limit api.Curve) (api.Curve, api.Errno) {
	if e := check(limit); e != api.OK {
		return api.Curve{}, e
	}
	return closed(limit), api.OK
}

func closed(limit api.Curve) api.Curve {
	c, _ := divided(limit)
	return c
}

// divided returns a limit, closed, and for each number of steps the first number of a division that has the least sum. Behind the first number there are fewer steps, so that their least sum is known by then.
func divided(limit api.Curve) (api.Curve, [api.MaxStep4 + 1]int) {
	var firsts [api.MaxStep4 + 1]int
	c := drawn(lastOf(limit), func(int) int { return 0 })
	for t := range c.V {
		s, n := least(sums(limit, c, 1, t))
		firsts[t], c.V[t] = s, n
	}
	return c, firsts
}

// Parts returns how steps are divided so that the sum of a limit is the least one.
func Parts(limit api.Curve, step int) ([]int, api.Errno) {
	if e := checkStep(limit, step); e != api.OK {
		return nil, e
	}
	_, firsts := divided(limit)
	var parts [api.MaxStep4]int
	n := 0
	for left := step; left > 0; left -= firsts[left] {
		parts[n] = firsts[left]
		n++
	}
	return parts[:n:n], api.OK
}

// CheckParts returns what a division of steps shows.
func CheckParts(limit api.Curve, step int, parts []int) (int, api.Errno) {
	if e := checkStep(limit, step); e != api.OK {
		return 0, e
	}
	if len(parts) > api.MaxStep4 {
		return 0, api.ErrLimit
	}
	sum, left := 0, step
	for _, n := range parts {
		if n < 1 || n > left {
			return 0, api.ErrProof
		}
		sum += limit.V[n]
		left -= n
	}
	if left > 0 {
		return 0, api.ErrProof
	}
	return sum, api.OK
}
