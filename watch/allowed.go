package watch

import "drowner/api"

// minutes is whether each minute of a watch is allowed.
type minutes []bool

// forbids reports whether a hatch that is open in a minute is so where it is not allowed.
func (l minutes) forbids(minute int, open bool) bool { return open && !l[minute] }

// allowedOf returns the minutes of a watch that are allowed; the error is that of the watch, then that of the spans.
func allowedOf(w api.Watch, allowed []api.Span) (minutes, api.Errno) {
	if e := Check(w); e != api.OK {
		return nil, e
	}
	for i, x := range allowed {
		if x.Lo < 0 || x.Lo > x.Hi || i > 0 && x.Lo-2 < allowed[i-1].Hi {
			return nil, api.ErrArg
		}
	}
	if len(allowed) > api.MaxWatch {
		return nil, api.ErrLimit
	}
	l := make(minutes, w.Last+1)
	for _, x := range allowed {
		for m := x.Lo; m <= min(x.Hi, w.Last); m++ {
			l[m] = true
		}
	}
	return l, api.OK
}

// isStolen reports of a watch whether no course is open in minutes only that are allowed.
func (l minutes) isStolen(w api.Watch) bool { return walkOf(w, l.forbids).isClash() }

// Stolen reports whether it was open in each course in some minute that is not allowed, and returns the words that show it, or a course.
func Stolen(w api.Watch, allowed []api.Span) ([]int, []bool, bool, api.Errno) {
	l, e := allowedOf(w, allowed)
	if e != api.OK {
		return nil, nil, false, e
	}
	if isClash(w) {
		return nil, nil, false, api.ErrClash
	}
	if l.isStolen(w) {
		return core(w, l.isStolen), nil, true, api.OK
	}
	_, c, e := walkOf(w, l.forbids).searched(evenly).course()
	return nil, c, false, e
}

// CheckStolen returns OK if words show that it was open in some minute that is not allowed.
func CheckStolen(w api.Watch, allowed []api.Span, ids []int) api.Errno {
	l, e := allowedOf(w, allowed)
	if e != api.OK {
		return e
	}
	return checkCore(w, ids, l.isStolen)
}

// Loss returns in how many minutes that are not allowed it was open at least, and a course.
func Loss(w api.Watch, allowed []api.Span) (int, []bool, api.Errno) {
	l, e := allowedOf(w, allowed)
	if e != api.OK {
		return 0, nil, e
	}
	return walkOf(w).searched(openFor(func(minute int) bool { return !l[minute] })).course()
}
