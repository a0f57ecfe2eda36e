package turn

import (
	"iter"

	"drowner/api"
)

// Count returns how many minutes of a span are in a set.
func Count(s api.Minutes, x api.Span) (int, api.Errno) {
	if e := checkIn(s, x); e != api.OK {
		return 0, e
	}
	n := 0
	for run := range runs(s, x) {
		n += run.Hi - run.Lo + 1
	}
	return n, api.OK
}

// Spans returns the minutes of a span that are in a set.
func Spans(s api.Minutes, x api.Span) ([]api.Span, api.Errno) {
	if e := checkIn(s, x); e != api.OK {
		return nil, e
	}
	return listed(runs(s, x))
}

// Rest returns the minutes of a span that are not in a set.
func Rest(s api.Minutes, x api.Span) ([]api.Span, api.Errno) {
	if e := checkIn(s, x); e != api.OK {
		return nil, e
	}
	return listed(gaps(s, x))
}

// Common returns the minutes of a span that are in two sets.
func Common(a, b api.Minutes, x api.Span) ([]api.Span, api.Errno) {
	if e := checkBoth(a, b); e != api.OK {
		return nil, e
	}
	if !isSpan(x) {
		return nil, api.ErrArg
	}
	return listed(both(a, b, x))
}

// listed returns spans as a list, if they are not too many.
func listed(spans iter.Seq[api.Span]) ([]api.Span, api.Errno) {
	var l []api.Span
	for x := range spans {
		if len(l) == api.MaxListed {
			return nil, api.ErrLimit
		}
		l = append(l, x)
	}
	return l, api.OK
}

// Covers reports whether all minutes of a span are in a set, and returns the first one that is not.
func Covers(s api.Minutes, x api.Span) (int, bool, api.Errno) {
	if e := checkIn(s, x); e != api.OK {
		return 0, false, e
	}
	for gap := range gaps(s, x) {
		return gap.Lo, false, api.OK
	}
	return 0, true, api.OK
}

// Same reports whether two sets have the same minutes, and returns the first one that only one of them has.
func Same(a, b api.Minutes) (int, bool, api.Errno) {
	if e := checkBoth(a, b); e != api.OK {
		return 0, false, e
	}
	v, w := sweepOf(a), sweepOf(b)
	for x := season(); x.Lo <= x.Hi; {
		p, q := v.next(x), w.next(x)
		if p.Lo != q.Lo {
			return min(p.Lo, q.Lo), false, api.OK
		}
		if p.Hi != q.Hi {
			return min(p.Hi, q.Hi) + 1, false, api.OK
		}
		x.Lo = p.Hi + 1
	}
	return 0, true, api.OK
}
