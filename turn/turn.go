// Package turn is layer 1: sets of minutes that come again (shared/doc/01-turn.md).
package turn

import "drowner/api"

// CheckTurn returns the error of a turn.
func CheckTurn(t api.Turn) api.Errno {
	if t.Period < 1 || t.Period > api.MaxPeriod || t.From < 0 || t.From >= t.Period || t.Long < 1 || t.Long > t.Period {
		return api.ErrArg
	}
	return api.OK
}

// Check returns the first error of a set.
func Check(s api.Minutes) api.Errno {
	if len(s.Turns) > api.MaxTurns || len(s.Spans) > api.MaxSingle {
		return api.ErrLimit
	}
	for _, t := range s.Turns {
		if e := CheckTurn(t); e != api.OK {
			return e
		}
	}
	for _, x := range s.Spans {
		if !isSpan(x) {
			return api.ErrArg
		}
	}
	return api.OK
}

// Holds reports whether a minute is in a set.
func Holds(s api.Minutes, minute int) (bool, api.Errno) {
	if e := checkAt(s, minute); e != api.OK {
		return false, e
	}
	for _, l := range lots(s) {
		if l.from(minute).Lo <= minute {
			return true, api.OK
		}
	}
	return false, api.OK
}

// Next returns the first minute of a set from a minute on.
func Next(s api.Minutes, minute int) (int, api.Errno) {
	if e := checkAt(s, minute); e != api.OK {
		return 0, e
	}
	next := least(lots(s), func(l lot) int { return max(l.from(minute).Lo, minute) })
	if next > api.MaxMinute {
		return 0, api.ErrNone
	}
	return next, api.OK
}

// Last returns the last minute of a set up to a minute.
func Last(s api.Minutes, minute int) (int, api.Errno) {
	if e := checkAt(s, minute); e != api.OK {
		return 0, e
	}
	last := -least(lots(s), func(l lot) int { return -min(l.upTo(minute).Hi, minute) })
	if last < 0 {
		return 0, api.ErrNone
	}
	return last, api.OK
}

// checkAt returns the first error of a set and a minute.
func checkAt(s api.Minutes, minute int) api.Errno {
	if e := Check(s); e != api.OK {
		return e
	}
	if !isMinute(minute) {
		return api.ErrArg
	}
	return api.OK
}

// checkIn returns the first error of a set and a span.
func checkIn(s api.Minutes, x api.Span) api.Errno {
	if e := Check(s); e != api.OK {
		return e
	}
	if !isSpan(x) {
		return api.ErrArg
	}
	return api.OK
}

// checkBoth returns the first error of two sets.
func checkBoth(a, b api.Minutes) api.Errno {
	if e := Check(a); e != api.OK {
		return e
	}
	return Check(b)
}

func isMinute(n int) bool { return n >= 0 && n <= api.MaxMinute }

func isSpan(x api.Span) bool { return isMinute(x.Lo) && isMinute(x.Hi) && x.Lo <= x.Hi }

// season returns the span of all minutes.
func season() api.Span { return api.Span{Lo: 0, Hi: api.MaxMinute} }

// least returns the least of the numbers of some things; never if there are none.
func least[T any](l []T, number func(T) int) int {
	n := never
	for _, x := range l {
		n = min(n, number(x))
	}
	return n
}
