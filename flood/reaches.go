package flood

import (
	"slices"
	"sort"

	"drowner/api"
)

// Served reports whether a reach lets a course through as a curve says, and returns the first step at which it does not.
func Served(in, out, service api.Curve) (int, bool, api.Errno) {
	if e := check(in, out, service); e != api.OK {
		return 0, false, e
	}
	if step := unserved(in, out, service); isStep(in, step) {
		return step, false, api.OK
	}
	return 0, true, api.OK
}

// unserved returns the first step at which too much or too little flows on behind a reach, or how many steps there are if it serves.
func unserved(in, out, service api.Curve) int {
	return min(firstAbove(out.V, in.V), firstAbove(through(in, service).V, out.V))
}

// Least returns the least course that flows on behind a reach.
func Least(in, service api.Curve) (api.Curve, api.Errno) {
	if e := check(in, service); e != api.OK {
		return api.Curve{}, e
	}
	return through(in, service), api.OK
}

// through returns the least course that a reach lets through. It is at most the course itself, so that none of its numbers is too great.
func through(in, service api.Curve) api.Curve { return lower(in, joined(in, service)) }

// Behind returns a limit that all courses behind a reach obey.
func Behind(limit, service api.Curve) (api.Curve, api.Errno) {
	if e := check(limit, service); e != api.OK {
		return api.Curve{}, e
	}
	c := closed(limit)
	return stepwise(c, lead(c, service), func(a, b int) int { return max(a, b) }), api.OK
}

// Left returns what a reach still does for others behind those that go ahead.
func Left(service, limit api.Curve) (api.Curve, api.Errno) {
	if e := check(service, limit); e != api.OK {
		return api.Curve{}, e
	}
	return drawn(lastOf(service), func(t int) int {
		_, gap := widest(upTo(service, t), upTo(limit, t))
		return max(gap, 0)
	}), api.OK
}

// checkPassage returns the error of a course and of what flows on, then ErrClash if more flows on than has come.
func checkPassage(in, out api.Curve) api.Errno {
	if e := check(in, out); e != api.OK {
		return e
	}
	if isStep(in, firstAbove(out.V, in.V)) {
		return api.ErrClash
	}
	return api.OK
}

// Stored returns the most that lies in a reach, and the first step at which it does.
func Stored(in, out api.Curve) (int, int, api.Errno) {
	if e := checkPassage(in, out); e != api.OK {
		return 0, 0, e
	}
	step, n := widest(in, out)
	return n, step, api.OK
}

// widest returns the first step at which a curve exceeds another one the most, and by how much (less than 0 if it never does).
func widest(f, g api.Curve) (step, gap int) {
	gaps := stepwise(f, g, func(a, b int) int { return a - b })
	return greatest(slices.All(gaps.V))
}

// Waited returns how many steps a course comes later at most.
func Waited(in, out api.Curve) (int, api.Errno) {
	if e := checkPassage(in, out); e != api.OK {
		return 0, e
	}
	return lag(in, out), api.OK
}

// lag returns by how many steps what flows on comes later at most. As it never falls, each number of steps behind one that is enough is so, too.
func lag(in, out api.Curve) int {
	return sort.Search(len(in.V), func(w int) bool {
		ahead := upTo(in, lastOf(in)-w)
		return !isStep(ahead, firstAbove(ahead.V, out.V[w:]))
	})
}
