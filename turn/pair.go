package turn

import "drowner/api"

// First returns the first minute that two turns have in common.
func First(a, b api.Turn) (int, api.Errno) {
	if e := checkPair(a, b); e != api.OK {
		return 0, e
	}
	if keepsApart(a, b, divisor(a.Period, b.Period)) {
		return 0, api.ErrNone
	}
	// They meet, so that going on from the later one of both runs to the next comes to an end.
	for at := 0; ; {
		p, q := cycle(a).from(at), cycle(b).from(at)
		at = max(at, p.Lo, q.Lo)
		if at <= min(p.Hi, q.Hi) {
			return at, api.OK
		}
	}
}

// Often returns how many minutes two turns have in common, and after how many minutes all comes again.
func Often(a, b api.Turn) (int, int, api.Errno) {
	if e := checkPair(a, b); e != api.OK {
		return 0, 0, e
	}
	// Each two remainders, by both periods, that agree modulo g belong to just one of l integers in a row.
	g, n := divisor(a.Period, b.Period), 0
	for r := range g {
		n += times(a, g, r) * times(b, g, r)
	}
	return n, multiple(a.Period, b.Period), api.OK
}

// times returns how many minutes of an occurrence of a turn have a remainder by a divisor of its period.
func times(t api.Turn, by, r int) int {
	n := t.Long / by
	if remainder(r-t.From, by) < t.Long%by {
		n++
	}
	return n
}

// Apart returns a modulus by which two turns have no minute in common.
func Apart(a, b api.Turn) (int, bool, api.Errno) {
	if e := checkPair(a, b); e != api.OK {
		return 0, false, e
	}
	for m := range divisor(a.Period, b.Period) + 1 {
		if divides(m, a, b) && keepsApart(a, b, m) {
			return m, true, api.OK
		}
	}
	return 0, false, api.OK
}

// CheckApart returns OK if a modulus shows that two turns have no minute in common.
func CheckApart(a, b api.Turn, modulus int) api.Errno {
	if e := checkPair(a, b); e != api.OK {
		return e
	}
	if !divides(modulus, a, b) || !keepsApart(a, b, modulus) {
		return api.ErrProof
	}
	return api.OK
}

// Part returns a part of each occurrence of a turn.
func Part(t api.Turn, from, long int) (api.Turn, api.Errno) {
	if e := CheckTurn(t); e != api.OK {
		return api.Turn{}, e
	}
	// from + long could be greater than an int can be.
	if from < 0 || long < 1 || long > t.Long || from > t.Long-long {
		return api.Turn{}, api.ErrArg
	}
	return api.Turn{Period: t.Period, From: (t.From + from) % t.Period, Long: long}, api.OK
}

// checkPair returns the first error of two turns.
func checkPair(a, b api.Turn) api.Errno {
	if e := CheckTurn(a); e != api.OK {
		return e
	}
	return CheckTurn(b)
}

// divides reports whether a number is a common divisor of both periods.
func divides(m int, a, b api.Turn) bool {
	return m >= 1 && a.Period%m == 0 && b.Period%m == 0
}

// keepsApart reports whether two turns have no remainder by a common divisor of their periods in common: on the round of all remainders b begins behind the end of a, and ends ahead of its beginning.
func keepsApart(a, b api.Turn, m int) bool {
	behind := remainder(b.From-a.From, m)
	return a.Long <= behind && behind+b.Long <= m
}

// divisor returns the greatest common divisor.
func divisor(a, b int) int {
	for b != 0 {
		a, b = b, a%b
	}
	return a
}

// multiple returns the least common multiple.
func multiple(a, b int) int {
	return a / divisor(a, b) * b
}
