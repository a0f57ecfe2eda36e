package flood

import "drowner/api"

// Backlog returns the most that can lie in a reach, with a course for which it does.
func Backlog(limit, service api.Curve) (int, api.Surge, api.Errno) {
	if e := check(limit, service); e != api.OK {
		return 0, api.Surge{}, e
	}
	// The limit, closed, is a course that obeys it, and as much of it as can lies in a reach that lets as little through as it may.
	c := closed(limit)
	step, gap := widest(c, service)
	return max(gap, 0), api.Surge{In: c, Out: through(c, service), Step: step}, api.OK
}

// CheckBacklog returns OK if a course shows that so much can lie in a reach.
func CheckBacklog(limit, service api.Curve, most int, s api.Surge) api.Errno {
	if e := check(limit, service); e != api.OK {
		return e
	}
	if check(limit, s.In, s.Out) != api.OK || !isStep(limit, s.Step) {
		return api.ErrProof
	}
	if s.In.V[0] != 0 || s.In.V[s.Step]-s.Out.V[s.Step] != most {
		return api.ErrProof
	}
	if _, found := breach(s.In, limit); found || isStep(limit, unserved(s.In, s.Out, service)) {
		return api.ErrProof
	}
	return api.OK
}

// Delay returns how many steps later a course can come at most.
func Delay(limit, service api.Curve) (int, api.Errno) {
	if e := check(limit, service); e != api.OK {
		return 0, e
	}
	return lag(closed(limit), service), api.OK
}

// staffs is readings of a course.
type staffs []api.Staff

// least returns how much has passed up to a step at least: what was read by then.
func (l staffs) least(step int) int {
	n := 0
	for _, x := range l {
		if x.Step <= step {
			n = max(n, x.At.Lo)
		}
	}
	return n
}

// most returns how much has passed up to a step at most: what was read from then on.
func (l staffs) most(step int) int {
	n := api.MaxVolume
	for _, x := range l {
		if x.Step >= step {
			n = min(n, x.At.Hi)
		}
	}
	return n
}

// Between returns the least and the greatest course that readings allow.
func Between(l []api.Staff, last int) (api.Curve, api.Curve, api.Errno) {
	if e := checkStaffs(l, last); e != api.OK {
		return api.Curve{}, api.Curve{}, e
	}
	low, high := drawn(last, staffs(l).least), drawn(last, staffs(l).most)
	if isStep(low, firstAbove(low.V, high.V)) {
		return api.Curve{}, api.Curve{}, api.ErrClash
	}
	return low, high, api.OK
}

func checkStaffs(l []api.Staff, last int) api.Errno {
	if len(l) > api.MaxStaffs {
		return api.ErrLimit
	}
	if last < 0 || last > api.MaxStep4 {
		return api.ErrArg
	}
	for _, x := range l {
		if x.Step < 0 || x.Step > last || x.At.Lo < 0 || x.At.Lo > x.At.Hi || x.At.Hi > api.MaxVolume {
			return api.ErrArg
		}
	}
	return api.OK
}
